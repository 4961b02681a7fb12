/-
  Plain facts on texts, no program in them: what is read out of marked text is signs, one behind the other, so it is ok, and it comes back from how it stands there: of every text that unT reads.
-/
import Derived.Test.YtbcledidadjddaaDoorUnSpecB
import Derived.Test.YtbcledidadjddaaDoorEscImpl
import Derived.Lib.RuneBytes
namespace Go.Proofs.YtbcledidadjddaaDoor.Hub
open Go.RowKit Go.Lib
set_option linter.unusedVariables false

/-- A sign's bytes. -/
def encL (n : Int) : List UInt8 := (Utf8.encode n).data.toList
theorem get_pre (s : ByteArray) (pre rest : List UInt8) (h : s.data.toList = pre ++ rest) (j : Nat) : (s.get! (pre.length + j)).toNat = (rest.getD j 0).toNat := by
  have hs : s.size = pre.length + rest.length := by
    have : s.data.toList.length = s.size := rfl
    rw [← this, h, List.length_append]
  by_cases hj : j < rest.length
  · rw [get_lt s (pre.length + j) (by omega)]
    have e : s[pre.length + j]'(by omega) = s.data.toList[pre.length + j]'(by have : s.data.toList.length = s.size := rfl; omega) := rfl
    rw [e]
    congr 1
    simp only [h]
    rw [List.getElem_append_right (by omega), List.getD_eq_getElem?_getD, List.getElem?_eq_getElem hj]
    simp
  · rw [List.getD_eq_getElem?_getD, List.getElem?_eq_none (by omega)]
    have e2 : s.get! (pre.length + j) = default := by
      show s.data[pre.length + j]! = default
      exact getElem!_neg _ _ (by show ¬ pre.length + j < s.size; omega)
    rw [e2]
    rfl
theorem size_pre (s : ByteArray) (pre rest : List UInt8) (h : s.data.toList = pre ++ rest) : s.size - pre.length = rest.length ∧ s.size = pre.length + rest.length := by
  have : s.data.toList.length = s.size := rfl
  rw [h, List.length_append] at this
  omega
set_option maxRecDepth 100000 in
/-- What begins where a sign's bytes stand is that sign. -/
theorem nx_enc (s : ByteArray) (pre suf : List UInt8) (n : Int) (hb : signB n = true) (h : s.data.toList = pre ++ (encL n ++ suf)) : nx s pre.length = (n, ((encL n).length : Int)) := by
  have hy := signB_yes hb
  obtain ⟨m, rfl⟩ : ∃ m : Nat, n = (m : Int) := ⟨n.toNat, by omega⟩
  have g := get_pre s pre (encL (m : Int) ++ suf) h
  have g0 := g 0
  have g1 := g 1
  have g2 := g 2
  have g3 := g 3
  have hz := (size_pre s pre _ h).1
  rw [Nat.add_zero] at g0
  unfold nx
  rw [hz]
  have hE : encL (m : Int) = (encodeRuneZ (m : Int)).map fun x => x.toNat.toUInt8 := encode_list _ hb
  rw [hE] at g0 g1 g2 g3 hz ⊢
  by_cases c1 : m < 128
  · rw [encodeRuneZ_one (by omega) (by omega)] at g0 g1 g2 g3 ⊢
    simp only [List.map_cons, List.map_nil, List.cons_append, List.nil_append, List.getD_cons_zero] at g0
    have e0 : (s.get! pre.length).toNat = m := by rw [g0]; simp; omega
    rw [(next_lead1 _ _ _ _ _ (by omega)).1, e0, finN_yes hb]
    simp
  · by_cases c2 : m < 2048
    · rw [encodeRuneZ_two (by omega) (by omega)] at g0 g1 g2 g3 ⊢
      simp only [List.map_cons, List.map_nil, List.cons_append, List.nil_append, List.getD_cons_zero, List.getD_cons_succ] at g0 g1
      have e0 : (s.get! pre.length).toNat = 192 + m / 64 := by rw [g0]; simp; omega
      have e1 : (s.get! (pre.length + 1)).toNat = 128 + m % 64 := by rw [g1]; simp; omega
      rw [e0, e1]
      have hl := @leadN_two (192 + m / 64) (by omega)
      have hc : (contB (128 + m % 64) && secondB (192 + m / 64) (128 + m % 64)) = true := by
        simp [contB, secondB]; omega
      unfold nextN
      rw [hl, if_neg (by decide), if_neg (by decide), if_neg (by simp), if_neg (by rw [hc]; decide), if_pos rfl]
      rw [show ((192 + m / 64 : Nat) : Int) % 32 * 64 + ((128 + m % 64 : Nat) : Int) - 128 = (m : Int) by omega, finN_yes hb]
      simp
    · by_cases c3 : m < 65536
      · rw [encodeRuneZ_three (by omega)] at g0 g1 g2 g3 ⊢
        simp only [List.map_cons, List.map_nil, List.cons_append, List.nil_append, List.getD_cons_zero, List.getD_cons_succ] at g0 g1 g2
        have e0 : (s.get! pre.length).toNat = 224 + m / 4096 := by rw [g0]; simp; omega
        have e1 : (s.get! (pre.length + 1)).toNat = 128 + m / 64 % 64 := by rw [g1]; simp; omega
        have e2 : (s.get! (pre.length + 2)).toNat = 128 + m % 64 := by rw [g2]; simp; omega
        rw [e0, e1, e2]
        have hl := @leadN_three (224 + m / 4096) (by omega)
        have hc : (contB (128 + m / 64 % 64) && secondB (224 + m / 4096) (128 + m / 64 % 64)) = true := by
          simp [contB, secondB]; omega
        have hc2 : contB (128 + m % 64) = true := by simp [contB]; omega
        unfold nextN
        rw [hl, if_neg (by decide), if_neg (by decide), if_neg (by simp), if_neg (by rw [hc]; decide), if_neg (by decide), if_neg (by simp), if_neg (by rw [hc2]; decide), if_pos rfl]
        rw [show (((224 + m / 4096 : Nat) : Int) % 16 * 64 + ((128 + m / 64 % 64 : Nat) : Int) - 128) * 64 + ((128 + m % 64 : Nat) : Int) - 128 = (m : Int) by omega, finN_yes hb]
        simp
      · rw [encodeRuneZ_four (by omega) (by omega)] at g0 g1 g2 g3 ⊢
        simp only [List.map_cons, List.map_nil, List.cons_append, List.nil_append, List.getD_cons_zero, List.getD_cons_succ] at g0 g1 g2 g3
        have e0 : (s.get! pre.length).toNat = 240 + m / 262144 := by rw [g0]; simp; omega
        have e1 : (s.get! (pre.length + 1)).toNat = 128 + m / 4096 % 64 := by rw [g1]; simp; omega
        have e2 : (s.get! (pre.length + 2)).toNat = 128 + m / 64 % 64 := by rw [g2]; simp; omega
        have e3 : (s.get! (pre.length + 3)).toNat = 128 + m % 64 := by rw [g3]; simp; omega
        rw [e0, e1, e2, e3]
        have hl := @leadN_four (240 + m / 262144) (by omega)
        have hc : (contB (128 + m / 4096 % 64) && secondB (240 + m / 262144) (128 + m / 4096 % 64)) = true := by
          simp [contB, secondB]; omega
        have hc2 : contB (128 + m / 64 % 64) = true := by simp [contB]; omega
        have hc3 : contB (128 + m % 64) = true := by simp [contB]; omega
        unfold nextN
        rw [hl, if_neg (by decide), if_neg (by decide), if_neg (by simp), if_neg (by rw [hc]; decide), if_neg (by decide), if_neg (by simp), if_neg (by rw [hc2]; decide), if_neg (by decide), if_neg (by simp), if_neg (by rw [hc3]; decide)]
        rw [show ((((240 + m / 262144 : Nat) : Int) % 8 * 64 + ((128 + m / 4096 % 64 : Nat) : Int) - 128) * 64 + ((128 + m / 64 % 64 : Nat) : Int) - 128) * 64 + ((128 + m % 64 : Nat) : Int) - 128 = (m : Int) by omega, finN_yes hb]
        simp
theorem encL_pos (n : Int) (hb : signB n = true) : 1 ≤ (encL n).length := by
  have hE : encL n = (encodeRuneZ n).map fun x => x.toNat.toUInt8 := encode_list _ hb
  rw [hE, List.length_map]
  exact (encodeRuneZ_length n).1
set_option maxRecDepth 100000 in
theorem decode_enc (s : ByteArray) (pre suf : List UInt8) (n : Int) (hb : signB n = true) (h : s.data.toList = pre ++ (encL n ++ suf)) : Utf8.decode s pre.length = (n.toNat, (encL n).length) ∧ Utf8.decode s pre.length ≠ (65533, 1) := by
  have hn := nx_enc s pre suf n hb h
  have hp := encL_pos n hb
  have hz := (size_pre s pre _ h).2
  rw [List.length_append] at hz
  rcases nx_decode s pre.length (by omega) with ⟨_, h1, h2⟩ | ⟨r, k, h1, h2, h3, h4, h5, h6⟩
  · rw [hn] at h2; simp only at h2; omega
  · rw [hn] at h6
    have hs : signB (r : Int) = true := by
      cases hs : signB (r : Int)
      · rw [finN_no hs] at h6
        have := (Prod.ext_iff.1 h6).2
        simp only at this
        omega
      · rfl
    rw [finN_yes hs] at h6
    obtain ⟨e1, e2⟩ := Prod.ext_iff.1 h6
    simp only at e1 e2
    have e3 : k = (encL n).length := by omega
    have e4 : r = n.toNat := by omega
    subst e3
    subst e4
    refine ⟨h5, ?_⟩
    rw [h5]
    intro e
    obtain ⟨e5, e6⟩ := Prod.ext_iff.1 e
    simp only at e5 e6
    have := h4 e6
    omega
set_option maxRecDepth 100000 in
/-- Signs one behind the other are ok. -/
theorem ok_signs : ∀ (f : Nat) (ns : List Int) (pre : List UInt8) (s : ByteArray), (∀ n ∈ ns, signB n = true) → s.data.toList = pre ++ ns.flatMap encL → okFrom s f pre.length = true
  | 0, _, _, _, _, _ => rfl
  | f + 1, [], pre, s, _, h => by
    have := (size_pre s pre _ h).2
    exact okFrom_end s _ _ (by simp at this; omega)
  | f + 1, n :: ns, pre, s, hb, h => by
    have hn := hb n (by simp)
    rw [List.flatMap_cons] at h
    have hp := encL_pos n hn
    have hz := (size_pre s pre _ h).2
    rw [List.length_append] at hz
    obtain ⟨hd, hne⟩ := decode_enc s pre _ n hn h
    have hy := signB_yes hn
    unfold okFrom
    rw [if_pos (by omega), if_neg hne, hd]
    simp only
    rw [show ((n.toNat : Nat) : Int) = n by omega, if_pos hn]
    have := ok_signs f ns (pre ++ encL n) s (fun m hm => hb m (by simp [hm])) (by rw [h, List.append_assoc])
    rw [List.length_append] at this
    exact this

/-- How a sign stands in marked text. -/
def escE (n : Int) : List UInt8 := escL (encL n)
set_option maxRecDepth 100000 in
theorem encL_low (m : Nat) (h : m < 128) : encL (m : Int) = [UInt8.ofNat m] := by unfold encL; exact encode_low m h

theorem scan_step (s : ByteArray) (i f k : Nat) (c : Nat) (hk : i + k < s.size) (hc : (s.get! (i + k)).toNat = c) (h1 : c ≠ 59) (h2 : entB c = true) (hf : f ≠ 0) : entScan s i (f + 1) k = entScan s i f (k + 1) := by
  conv => lhs; unfold entScan
  rw [if_neg (by omega), hc, if_neg h1, if_neg (by rw [h2]; decide), if_neg hf]
theorem scan_end (s : ByteArray) (i f k : Nat) (hk : i + k < s.size) (hc : (s.get! (i + k)).toNat = 59) : entScan s i (f + 1) k = k := by
  conv => lhs; unfold entScan
  rw [if_neg (by omega), if_pos hc]
theorem sub_pre (s : ByteArray) (pre mid suf : List UInt8) (c : UInt8) (h : s.data.toList = pre ++ (c :: mid ++ suf)) : sub s (pre.length + 1) (pre.length + (mid.length + 1)) = mid := by
  unfold sub
  rw [h, show pre ++ (c :: mid ++ suf) = (pre ++ [c]) ++ (mid ++ suf) by simp, show pre.length + 1 = (pre ++ [c]).length by simp, List.drop_left]
  rw [show pre.length + (mid.length + 1) - (pre ++ [c]).length = mid.length by simp; omega, List.take_left]
set_option maxRecDepth 100000 in
/-- Bytes that may stand within an entity, up to a semicolon. -/
theorem scan_mid (s : ByteArray) (i : Nat) : ∀ (mid suf : List UInt8) (pre : List UInt8) (f k : Nat), s.data.toList = pre ++ (mid ++ 59 :: suf) → pre.length = i + k → (∀ b ∈ mid, b ≠ 59 ∧ entB b.toNat = true) → mid.length < f → entScan s i f k = ((k + mid.length : Nat) : Int)
  | [], suf, pre, f, k, h, hp, _, hf => by
    obtain ⟨g, rfl⟩ : ∃ g, f = g + 1 := ⟨f - 1, by simp at hf; omega⟩
    have g0 := get_pre s pre _ h 0
    have hz := (size_pre s pre _ h).2
    rw [Nat.add_zero, hp] at g0
    simp only [List.nil_append, List.length_cons] at hz
    rw [scan_end s i g k (by omega) (by rw [g0]; rfl)]
    simp
  | b :: mid, suf, pre, f, k, h, hp, hm, hf => by
    obtain ⟨g, rfl⟩ : ∃ g, f = g + 1 := ⟨f - 1, by simp at hf; omega⟩
    have g0 := get_pre s pre _ h 0
    have hz := (size_pre s pre _ h).2
    rw [Nat.add_zero, hp] at g0
    simp only [List.cons_append, List.length_cons, List.length_append] at hz
    simp only [List.length_cons] at hf
    obtain ⟨h1, h2⟩ := hm b (by simp)
    rw [scan_step s i g k b.toNat (by omega) (by rw [g0]; rfl) (fun e => h1 (UInt8.toNat_inj.1 (by rw [e]; rfl))) h2 (by omega)]
    rw [scan_mid s i mid suf (pre ++ [b]) g (k + 1) (by rw [h]; simp) (by simp; omega) (fun c hc => hm c (by simp [hc])) (by omega)]
    simp only [List.length_cons]
    omega
set_option maxRecDepth 100000 in
theorem part_ent (s : ByteArray) (pre mid suf : List UInt8) (n : Int) (h : s.data.toList = pre ++ (38 :: mid ++ 59 :: suf)) (hm : ∀ b ∈ mid, b ≠ 59 ∧ entB b.toNat = true) (hl : mid.length < 9) (hn : entNum mid = n) (hb : signB n = true) : part s pre.length = (n, ((mid.length + 2 : Nat) : Int), 0) := by
  have g0 := get_pre s pre _ h 0
  rw [Nat.add_zero] at g0
  have hs := scan_mid s pre.length mid suf (pre ++ [38]) 9 1 (by rw [h]; simp) (by simp) hm hl
  unfold part entPart
  rw [if_pos (by rw [g0]; rfl), hs, if_neg (by omega), if_neg (by omega)]
  simp only [Int.toNat_natCast]
  rw [show pre.length + (1 + mid.length) = pre.length + (mid.length + 1) by omega, sub_pre s pre mid (59 :: suf) 38 h, hn, if_pos hb]
  simp only [Prod.mk.injEq, true_and, and_true]
  omega
set_option maxRecDepth 100000 in
theorem part_sign (s : ByteArray) (pre suf : List UInt8) (n : Int) (hb : signB n = true) (h : s.data.toList = pre ++ (escE n ++ suf)) : part s pre.length = (n, ((escE n).length : Int), 0) ∧ 1 ≤ (escE n).length ∧ (n = 60 → (escE n).length ≠ 1) := by
  have hy := signB_yes hb
  obtain ⟨m, rfl⟩ : ∃ m : Nat, n = (m : Int) := ⟨n.toNat, by omega⟩
  have hp := encL_pos (m : Int) hb
  have plainC : escE (m : Int) = encL (m : Int) → m ≠ 38 → m ≠ 60 → part s pre.length = ((m : Int), ((escE (m : Int)).length : Int), 0) ∧ 1 ≤ (escE (m : Int)).length ∧ ((m : Int) = 60 → (escE (m : Int)).length ≠ 1) := by
    intro e h38 h60
    rw [e] at h ⊢
    refine ⟨?_, hp, fun e => by omega⟩
    have hn := nx_enc s pre suf m hb h
    have hne : (s.get! pre.length).toNat ≠ 38 := by
      intro h1
      have hx : nx s pre.length = finN 38 1 := by
        unfold nx
        rw [(next_lead1 _ _ _ _ _ (by rw [h1]; omega)).1, h1]
        rfl
      rw [hn, finN_yes (by decide)] at hx
      have := (Prod.ext_iff.1 hx).1
      simp only at this
      omega
    unfold part
    rw [if_neg hne, hn]
    simp only
    rw [if_neg (by omega), if_neg (by omega)]
  by_cases c : 128 ≤ m
  · exact plainC (escL_high _ (encode_high _ hb (by omega))) (by omega) (by omega)
  · have hl := encL_low m (by omega)
    have hent : ∀ mid : List UInt8, escE (m : Int) = 38 :: mid ++ [59] → (∀ b ∈ mid, b ≠ 59 ∧ entB b.toNat = true) → mid.length < 9 → entNum mid = (m : Int) → part s pre.length = ((m : Int), ((escE (m : Int)).length : Int), 0) ∧ 1 ≤ (escE (m : Int)).length ∧ ((m : Int) = 60 → (escE (m : Int)).length ≠ 1) := by
      intro mid e h1 h2 h3
      have := part_ent s pre mid suf m (by rw [h, e]; simp) h1 h2 h3 hb
      rw [this, e]
      simp
      omega
    by_cases d : m = 38 ∨ m = 60 ∨ m = 62 ∨ m = 34 ∨ m = 39 ∨ m = 10 ∨ m = 9
    · rcases d with rfl | rfl | rfl | rfl | rfl | rfl | rfl
      · exact hent [97, 109, 112] (by unfold escE; rw [hl]; decide) (by decide) (by decide) (by decide +kernel)
      · exact hent [108, 116] (by unfold escE; rw [hl]; decide) (by decide) (by decide) (by decide +kernel)
      · exact hent [103, 116] (by unfold escE; rw [hl]; decide) (by decide) (by decide) (by decide +kernel)
      · exact hent [113, 117, 111, 116] (by unfold escE; rw [hl]; decide) (by decide) (by decide) (by decide +kernel)
      · exact hent [97, 112, 111, 115] (by unfold escE; rw [hl]; decide) (by decide) (by decide) (by decide +kernel)
      · exact hent [35, 49, 48] (by unfold escE; rw [hl]; decide) (by decide) (by decide) (by decide +kernel)
      · exact hent [35, 57] (by unfold escE; rw [hl]; decide) (by decide) (by decide) (by decide +kernel)
    · refine plainC ?_ (by omega) (by omega)
      unfold escE
      rw [hl]
      have ht : (UInt8.ofNat m).toNat = m := by simp; omega
      have hne : ∀ k : UInt8, m ≠ k.toNat → UInt8.ofNat m ≠ k := fun k hk e => hk (by rw [← e, ht])
      simp only [escL, List.flatMap_cons, List.flatMap_nil, List.append_nil, escB]
      rw [if_neg (hne 38 (by simp; omega)), if_neg (hne 60 (by simp; omega)), if_neg (hne 62 (by simp; omega)), if_neg (hne 34 (by simp; omega)), if_neg (hne 39 (by simp; omega)), if_neg (hne 10 (by simp; omega)), if_neg (hne 9 (by simp; omega))]
set_option maxRecDepth 100000 in
/-- How signs stand in marked text is read as these. -/
theorem un_signs : ∀ (ns : List Int) (f : Nat) (pre : List UInt8) (s : ByteArray), (∀ n ∈ ns, signB n = true) → s.data.toList = pre ++ ns.flatMap escE → ns.length ≤ f → unL s f pre.length = some (ns.flatMap encL)
  | [], f, pre, s, _, h, _ => by
    have := (size_pre s pre _ h).2
    rw [unL_end s _ _ (by simp at this; omega)]
    rfl
  | n :: ns, 0, pre, s, hb, h, hf => by simp at hf
  | n :: ns, f + 1, pre, s, hb, h, hf => by
    have hn := hb n (by simp)
    rw [List.flatMap_cons] at h
    obtain ⟨h1, h2, h3⟩ := part_sign s pre _ n hn h
    have hz := (size_pre s pre _ h).2
    rw [List.length_append] at hz
    have hpt : partT s pre.length = (Utf8.encode n, ((escE n).length : Int)) := by
      unfold partT
      rw [h1]
      simp only
      rw [if_neg (by omega), if_pos trivial, if_neg]
      rintro ⟨e1, e2⟩
      exact h3 e1 (by omega)
    have ih := un_signs ns f (pre ++ escE n) s (fun m hm => hb m (by simp [hm])) (by rw [h, List.append_assoc]) (by simp at hf; omega)
    rw [List.length_append] at ih
    unfold unL
    rw [if_pos (by omega), hpt]
    simp only [Int.toNat_natCast]
    rw [if_neg (by omega), ih]
    simp [encL]
set_option maxRecDepth 100000 in
/-- What stands in marked text is signs, one behind the other. -/
theorem unL_signs (s : ByteArray) : ∀ (f p : Nat) (x : List UInt8), unL s f p = some x → ∃ ns : List Int, (∀ n ∈ ns, signB n = true) ∧ x = ns.flatMap encL
  | 0, p, x, h => ⟨[], by simp, by unfold unL at h; simpa using h.symm⟩
  | f + 1, p, x, h => by
    unfold unL at h
    by_cases hp : p < s.size
    · rw [if_pos hp] at h
      rcases partT_cases s p hp with ⟨m, hm, e, _⟩ | ⟨n, k, e, _, _, h1, h2, h3⟩
      · rw [e, if_pos (by simp only; omega)] at h; cases h
      · rw [e, if_neg (by simp only; omega)] at h
        simp only [Int.toNat_natCast] at h
        cases hu : unL s f (p + k) with
        | none => rw [hu] at h; cases h
        | some y =>
          rw [hu] at h
          obtain ⟨ns, hns, rfl⟩ := unL_signs s f (p + k) y hu
          refine ⟨(n : Int) :: ns, ?_, ?_⟩
          · intro m hm
            rcases List.mem_cons.1 hm with rfl | hm
            · exact h3
            · exact hns m hm
          · simpa [encL] using h.symm
    · rw [if_neg hp] at h
      exact ⟨[], by simp, by simpa using h.symm⟩
theorem escL_signs : ∀ ns : List Int, escL (ns.flatMap encL) = ns.flatMap escE
  | [] => rfl
  | n :: ns => by rw [List.flatMap_cons, List.flatMap_cons, escL_append, escL_signs ns]; rfl
theorem signs_len : ∀ ns : List Int, (∀ n ∈ ns, signB n = true) → ns.length ≤ (ns.flatMap escE).length
  | [], _ => by simp
  | n :: ns, h => by
    have h1 := signs_len ns (fun m hm => h m (by simp [hm]))
    have h2 := (part_sign (ofL (escE n)) [] [] n (h n (by simp)) (by simp [ofL])).2.1
    rw [List.flatMap_cons, List.length_append, List.length_cons]
    omega
theorem ofL_list (s : ByteArray) : ofL s.data.toList = s := rfl
theorem unL_size (s : ByteArray) : ∀ (f p : Nat) (x : List UInt8), unL s f p = some x → x.length ≤ 4 * f
  | 0, p, x, h => by unfold unL at h; simp at h; subst h; simp
  | f + 1, p, x, h => by
    unfold unL at h
    by_cases hp : p < s.size
    · rw [if_pos hp] at h
      rcases partT_cases s p hp with ⟨m, hm, e, _⟩ | ⟨n, k, e, _, _, h1, h2, h3⟩
      · rw [e, if_pos (by simp only; omega)] at h; cases h
      · rw [e, if_neg (by simp only; omega)] at h
        simp only [Int.toNat_natCast] at h
        cases hu : unL s f (p + k) with
        | none => rw [hu] at h; cases h
        | some y =>
          rw [hu] at h
          have h5 := unL_size s f (p + k) y hu
          have h6 := encode_small (n : Int)
          simp only [Option.map_some, Option.some.injEq] at h
          subst h
          rw [List.length_append]
          omega
    · rw [if_neg hp] at h
      simp at h; subst h; simp
theorem unT_size (s : ByteArray) : (unT s).1.size ≤ 4 * s.size := by
  unfold unT
  cases hu : unL s s.size 0 with
  | none => show 0 ≤ _; omega
  | some l => have := unL_size s _ _ _ hu; show (ofL l).size ≤ _; rw [ofL_size]; exact this
theorem escT_size (s : ByteArray) : (escT s).size ≤ 6 * s.size := by
  unfold escT
  split
  · rw [ofL_size]; exact escL_le _
  · show 0 ≤ _; omega
/-- A text that is read out of marked text is ok, and comes back from how it stands there. -/
theorem unT_back (s x : ByteArray) (h : unT s = (x, true)) : okT x = true ∧ unT (escT x) = (x, true) := by
  unfold unT at h
  cases hu : unL s s.size 0 with
  | none => rw [hu] at h; simp [outT] at h
  | some l =>
    rw [hu] at h
    obtain ⟨ns, hns, rfl⟩ := unL_signs s _ _ _ hu
    obtain rfl : ofL (ns.flatMap encL) = x := (Prod.ext_iff.1 h).1
    have ok : okT (ofL (ns.flatMap encL)) = true := ok_signs _ ns [] _ hns (by simp [ofL])
    refine ⟨ok, ?_⟩
    have e : escT (ofL (ns.flatMap encL)) = ofL (ns.flatMap escE) := by
      unfold escT
      rw [if_pos ok]
      congr 1
      rw [show (ofL (ns.flatMap encL)).data.toList = ns.flatMap encL by simp [ofL], escL_signs]
    rw [e]
    unfold unT
    have hu2 := un_signs ns (ofL (ns.flatMap escE)).size [] (ofL (ns.flatMap escE)) hns (by simp [ofL]) (by rw [ofL_size]; exact signs_len ns hns)
    rw [List.length_nil] at hu2
    rw [hu2]
    rfl
end Go.Proofs.YtbcledidadjddaaDoor.Hub
