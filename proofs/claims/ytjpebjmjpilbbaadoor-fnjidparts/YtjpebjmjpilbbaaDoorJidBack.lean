/-
  Plain facts on addresses, no program in them: an address that is ok is read back from how it is written; how it is written is not empty; and what is read is written in as many bytes.
-/
import Derived.Test.YtjpebjmjpilbbaaDoorJidGetB
namespace Go.Proofs.YtjpebjmjpilbbaaDoor.Hub
open Go.RowKit Go.Lib
set_option linter.unusedVariables false

theorem index_none (c : UInt8) : ∀ l : List UInt8, c ∉ l → indexByte l c = -1
  | [], _ => rfl
  | x :: xs, h => by
    have h1 : (x == c) = false := by
      have : x ≠ c := fun e => h (by rw [e]; simp)
      simpa using this
    have h2 := index_none c xs (fun hm => h (by simp [hm]))
    unfold indexByte
    rw [h1, h2]
    rfl
theorem index_at (c : UInt8) (b : List UInt8) : ∀ a : List UInt8, c ∉ a → indexByte (a ++ c :: b) c = (a.length : Int)
  | [], _ => by simp [indexByte]
  | x :: xs, h => by
    have h1 : (x == c) = false := by
      have : x ≠ c := fun e => h (by rw [e]; simp)
      simpa using this
    have h2 := index_at c b xs (fun hm => h (by simp [hm]))
    rw [List.cons_append]
    unfold indexByte
    rw [h1, h2]
    have h3 : ((xs.length : Int) == -1) = false := by simp
    rw [h3]
    simp
theorem cutB_none (c : UInt8) (s : ByteArray) (h : c ∉ s.data.toList) : cutB c s = (s, ⟨#[]⟩, false) := by
  unfold cutB
  rw [if_pos (index_none c _ h)]
theorem cutB_at (c : UInt8) (s : ByteArray) (a b : List UInt8) (h : s.data.toList = a ++ c :: b) (hc : c ∉ a) : cutB c s = (ofL a, ofL b, true) := by
  have hi : indexByte s.data.toList c = (a.length : Int) := by rw [h]; exact index_at c b a hc
  unfold cutB
  rw [if_neg (by omega), hi]
  simp only [Int.toNat_natCast]
  have e1 : s.extract 0 a.length = ofL a := by
    apply WideShapes.bytes_inj
    rw [extract_list, h]
    simp [ofL]
  have e2 : s.extract (a.length + 1) s.size = ofL b := by
    apply WideShapes.bytes_inj
    rw [tail_list, h, show a ++ c :: b = (a ++ [c]) ++ b by simp, show a.length + 1 = (a ++ [c]).length by simp, List.drop_left]
    simp [ofL]
  rw [e1, e2]

/-- A byte of a text is the one at which it is cut, or one of a part. -/
theorem cut_mem (c : UInt8) : ∀ (m : Nat) (l : List UInt8) (b : UInt8), b ∈ l → b = c ∨ ∃ p ∈ cutL c m l, b ∈ p
  | m, [], b, h => by simp at h
  | 0, x :: xs, b, h => .inr ⟨x :: xs, by rw [cutL_zero]; simp, h⟩
  | m + 1, x :: xs, b, h => by
    rw [cutL_cons]
    by_cases hx : x = c
    · rw [if_pos hx]
      rcases List.mem_cons.1 h with e | h
      · exact .inl (by rw [e, hx])
      · rcases cut_mem c m xs b h with e | ⟨p, hp, hb⟩
        · exact .inl e
        · exact .inr ⟨p, by simp [hp], hb⟩
    · rw [if_neg hx]
      cases hq : cutL c (m + 1) xs with
      | nil => exact absurd hq (cutL_ne _ _ _)
      | cons q qs =>
        simp only [consTo]
        rcases List.mem_cons.1 h with e | h
        · exact .inr ⟨[x] ++ q, by simp, by rw [e]; simp⟩
        · rcases cut_mem c (m + 1) xs b h with e | ⟨p, hp, hb⟩
          · exact .inl e
          · rw [hq] at hp
            rcases List.mem_cons.1 hp with e | hp
            · exact .inr ⟨[x] ++ q, by simp, by rw [e] at hb; simp [hb]⟩
            · exact .inr ⟨p, by simp [hp], hb⟩
/-- A byte that is neither a slash nor an at, nor a large letter. -/
def tame (b : UInt8) : Prop := b ≠ 47 ∧ b ≠ 64 ∧ ¬ (65 ≤ b.toNat ∧ b.toNat ≤ 90)
theorem tame_of (b : UInt8) (h : (97 ≤ (b.toNat : Int) ∧ (b.toNat : Int) ≤ 122) ∨ (48 ≤ (b.toNat : Int) ∧ (b.toNat : Int) ≤ 57) ∨ (b.toNat : Int) = 45 ∨ (b.toNat : Int) = 46 ∨ (b.toNat : Int) = 95) : tame b := by
  refine ⟨?_, ?_, by omega⟩
  · rintro rfl
    have : (47 : UInt8).toNat = 47 := rfl
    omega
  · rintro rfl
    have : (64 : UInt8).toNat = 64 := rfl
    omega
theorem user_tame (u : ByteArray) (h : userT u = true) : ∀ b ∈ u.data.toList, tame b := by
  intro b hb
  unfold userT at h
  rw [Bool.and_eq_true] at h
  have h2 := of_decide_eq_true (List.all_eq_true.1 h.2 b hb)
  exact tame_of b (by omega)
theorem host_tame (h : ByteArray) (hh : hostT h = true) : (∀ b ∈ h.data.toList, tame b) ∧ 1 ≤ h.size ∧ h.size ≤ 20 := by
  unfold hostT at hh
  rw [Bool.and_eq_true] at hh
  have h20 := of_decide_eq_true hh.1
  have hall := List.all_eq_true.1 hh.2
  refine ⟨fun b hb => ?_, ?_, h20⟩
  · rcases cut_mem 46 h.size _ b hb with rfl | ⟨p, hp, hb⟩
    · exact tame_of 46 (by decide)
    · have h1 := hall p hp
      unfold hpartT at h1
      rw [Bool.and_eq_true, Bool.and_eq_true] at h1
      have h2 := of_decide_eq_true (List.all_eq_true.1 h1.1.2 b (by simpa [ofL] using hb))
      exact tame_of b (by omega)
  · rcases Nat.lt_or_ge 0 h.size with h1 | h1
    · exact h1
    · exfalso
      have hz := size_zero h (by omega)
      rw [hz] at hall
      have := hall [] (by decide)
      exact absurd this (by decide)
theorem jid_parts (u h n : ByteArray) (hj : jidT u h n = true) : ((∀ b ∈ u.data.toList, tame b) ∧ u.size ≤ 8) ∧ ((∀ b ∈ h.data.toList, tame b) ∧ 1 ≤ h.size ∧ h.size ≤ 20) ∧ n.size ≤ 10 := by
  unfold jidT at hj
  rw [Bool.and_eq_true, Bool.and_eq_true] at hj
  obtain ⟨h1, h2, h3⟩ := hj
  refine ⟨?_, host_tame h h2, ?_⟩
  · unfold orE at h1
    by_cases hz : u.size = 0
    · exact ⟨fun b hb => by rw [list_nil hz] at hb; simp at hb, by omega⟩
    · rw [if_neg hz] at h1
      refine ⟨user_tame u h1, ?_⟩
      unfold userT at h1
      rw [Bool.and_eq_true] at h1
      have := of_decide_eq_true h1.1
      omega
  · unfold orE at h3
    by_cases hz : n.size = 0
    · omega
    · rw [if_neg hz] at h3
      unfold nickT at h3
      simp only [Bool.and_eq_true, decide_eq_true_eq] at h3
      omega
theorem fold_tame (s : ByteArray) (h : ∀ b ∈ s.data.toList, tame b) : foldT s = s := by
  apply WideShapes.bytes_inj
  unfold foldT
  have : s.data.toList.map foldB = s.data.toList := by
    conv => rhs; rw [← List.map_id s.data.toList]
    exact List.map_congr_left fun b hb => foldB_no b (h b hb).2.2
  rw [this]
  simp [ofL]
theorem jput_list (u h n : ByteArray) : (jput u h n).data.toList = (if u.data.toList = [] then [] else u.data.toList ++ [64]) ++ (h.data.toList ++ (if n.data.toList = [] then [] else 47 :: n.data.toList)) := by
  unfold jput jputL
  simp [ofL]
theorem jput_size (u h n : ByteArray) : (jput u h n).size = (if u.size = 0 then 0 else u.size + 1) + (h.size + (if n.size = 0 then 0 else n.size + 1)) := by
  have e : (jput u h n).size = (jput u h n).data.toList.length := rfl
  have lu : u.data.toList.length = u.size := rfl
  have lh : h.data.toList.length = h.size := rfl
  have ln : n.data.toList.length = n.size := rfl
  rw [e, jput_list]
  by_cases hu : u.size = 0
  · by_cases hn : n.size = 0
    · simp [list_nil hu, list_nil hn, hu, hn, lh]
    · simp [list_nil hu, list_ne hn, hu, hn, lh, ln]
  · by_cases hn : n.size = 0
    · simp [list_ne hu, list_nil hn, hu, hn, lh, lu]
      omega
    · simp [list_ne hu, list_ne hn, hu, hn, lh, lu, ln]
      omega
/-- An address that is ok is read back from how it is written. -/
theorem jput_back (u h n : ByteArray) (hj : jidT u h n = true) : jgetV (jput u h n) = .tuple #[.agg #[.string u, .string h, .string n], .bool true] := by
  obtain ⟨⟨tu, su⟩, ⟨th, sh1, sh2⟩, sn⟩ := jid_parts u h n hj
  have fu := fold_tame u tu
  have fh := fold_tame h th
  have hl := jput_list u h n
  have hsz := jput_size u h n
  have hle : (jput u h n).size ≤ 60 := by
    rw [hsz]
    split <;> split <;> omega
  -- what is ahead of the slash
  obtain ⟨H, hH⟩ : ∃ H : List UInt8, H = (if u.data.toList = [] then [] else u.data.toList ++ [64]) ++ h.data.toList := ⟨_, rfl⟩
  have hHm : (47 : UInt8) ∉ H := by
    rw [hH]
    intro hm
    rcases List.mem_append.1 hm with hm | hm
    · split at hm
      · simp at hm
      · rcases List.mem_append.1 hm with hm | hm
        · exact (tu _ hm).1 rfl
        · simp at hm
    · exact (th _ hm).1 rfl
  have hcut : gHead (jput u h n) = ofL H ∧ gNick (jput u h n) = n ∧ noNick (jput u h n) = false := by
    by_cases hn : n.size = 0
    · have hl2 : (jput u h n).data.toList = H := by rw [hl, hH, list_nil hn]; simp
      have hc := cutB_none 47 (jput u h n) (by rw [hl2]; exact hHm)
      unfold noNick gHead gNick
      rw [hc]
      refine ⟨WideShapes.bytes_inj (by rw [hl2]; simp [ofL]), (size_zero n hn).symm, rfl⟩
    · have hl2 : (jput u h n).data.toList = H ++ 47 :: n.data.toList := by rw [hl, hH, if_neg (list_ne hn)]; simp
      have hc := cutB_at 47 (jput u h n) H n.data.toList hl2 hHm
      unfold noNick gHead gNick
      rw [hc]
      refine ⟨rfl, rfl, ?_⟩
      have : (ofL n.data.toList).size = n.size := by rw [ofL_size]; rfl
      simp [this, hn]
  have hcu : gUser (jput u h n) = u ∧ gHost (jput u h n) = h ∧ noUser (jput u h n) = false := by
    unfold noUser gUser gHost
    rw [hcut.1]
    by_cases hu : u.size = 0
    · have hl2 : (ofL H).data.toList = h.data.toList := by rw [hH, list_nil hu]; simp [ofL]
      have hc := cutB_none 64 (ofL H) (by rw [hl2]; intro hm; exact (th _ hm).2.1 rfl)
      rw [hc]
      refine ⟨(size_zero u hu).symm, WideShapes.bytes_inj hl2, rfl⟩
    · have hl2 : (ofL H).data.toList = u.data.toList ++ 64 :: h.data.toList := by rw [hH, if_neg (list_ne hu)]; simp [ofL]
      have hc := cutB_at 64 (ofL H) u.data.toList h.data.toList hl2 (fun hm => (tu _ hm).2.1 rfl)
      rw [hc]
      refine ⟨rfl, rfl, ?_⟩
      have : (ofL u.data.toList).size = u.size := by rw [ofL_size]; rfl
      simp [this, hu]
  have hok : gOk (jput u h n) = true := by
    unfold gOk
    rw [hcut.2.2, hcu.2.2, hcut.2.1, hcu.1, hcu.2.1, fu, fh, hj]
    rfl
  unfold jgetV
  rw [if_pos hle, gVal_some _ hok, hcut.2.1, hcu.1, hcu.2.1, fu, fh]
/-- How an address is written is not empty. -/
theorem jput_pos (u h n : ByteArray) (hj : jidT u h n = true) : 1 ≤ (jput u h n).size ∧ (jput u h n).size ≤ 60 := by
  obtain ⟨⟨tu, su⟩, ⟨th, sh1, sh2⟩, sn⟩ := jid_parts u h n hj
  rw [jput_size]
  split <;> split <;> omega
/-- What is read is written in as many bytes. -/
theorem get_size (s : ByteArray) (hok : gOk s = true) : (jput (foldT (gUser s)) (foldT (gHost s)) (gNick s)).size = s.size := by
  unfold gOk at hok
  rw [Bool.and_eq_true, Bool.and_eq_true] at hok
  obtain ⟨h1, h2, _⟩ := hok
  rw [jput_size, foldT_size, foldT_size]
  have hN : (gHead s).size + (if (gNick s).size = 0 then 0 else (gNick s).size + 1) = s.size := by
    unfold noNick at h1
    unfold gHead
    rcases cutB_cases 47 s with ⟨_, h, _⟩ | ⟨i, hi, _, h, _⟩
    · have hn : (gNick s).size = 0 := by unfold gNick; rw [h]; rfl
      rw [if_pos hn, h]
      rfl
    · rw [h] at h1
      have hn : ¬ (gNick s).size = 0 := by
        intro e
        rw [e] at h1
        simp at h1
      rw [if_neg hn, h]
      unfold gNick
      rw [h]
      simp only [ByteArray.size_extract]
      omega
  have hU : (if (gUser s).size = 0 then 0 else (gUser s).size + 1) + (gHost s).size = (gHead s).size := by
    unfold noUser at h2
    rcases cutB_cases 64 (gHead s) with ⟨_, h, _⟩ | ⟨i, hi, _, h, _⟩
    · have hu : (gUser s).size = 0 := by unfold gUser; rw [h]; rfl
      rw [if_pos hu]
      unfold gHost
      rw [h]
      simp
    · rw [h] at h2
      have hu : ¬ (gUser s).size = 0 := by
        intro e
        rw [e] at h2
        simp at h2
      rw [if_neg hu]
      unfold gUser gHost
      rw [h]
      simp only [if_true, ByteArray.size_extract]
      omega
  omega
/-- What is read is an address that is ok, written in as many bytes. -/
theorem get_back (s x y z : ByteArray) (h : jgetV s = .tuple #[.agg #[.string x, .string y, .string z], .bool true]) : jidT x y z = true ∧ (jput x y z).size = s.size := by
  unfold jgetV at h
  by_cases h60 : s.size ≤ 60
  · rw [if_pos h60] at h
    cases hok : gOk s
    · rw [gVal_none s hok] at h
      simp [noneV] at h
    · rw [gVal_some s hok] at h
      simp only [Value.tuple.injEq, Array.mk.injEq, List.cons.injEq, Value.agg.injEq, Value.string.injEq, and_true] at h
      obtain ⟨rfl, rfl, rfl⟩ := h
      refine ⟨?_, get_size s hok⟩
      unfold gOk at hok
      rw [Bool.and_eq_true, Bool.and_eq_true] at hok
      exact hok.2.2
  · rw [if_neg h60] at h
    simp [noneV] at h
end Go.Proofs.YtjpebjmjpilbbaaDoor.Hub
