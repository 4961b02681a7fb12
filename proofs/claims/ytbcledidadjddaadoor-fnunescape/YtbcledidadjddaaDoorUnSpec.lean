/-
  The model's l1Part at every place within a text, and its Unescape: they answer partT and unT.
-/
import Derived.Test.YtbcledidadjddaaDoorEntSpec
namespace Go.Proofs.YtbcledidadjddaaDoor.Hub
open Go.RowKit
set_option linter.unusedVariables false

theorem nextN_ge (n b0 b1 b2 b3 : Nat) : -1 ≤ (nextN n b0 b1 b2 b3).2 := by
  have hf : ∀ x k : Int, 0 ≤ k → -1 ≤ (finN x k).2 := fun x k hk => by
    unfold finN
    split
    · show -1 ≤ k; omega
    · show (-1 : Int) ≤ 0; omega
  unfold nextN
  repeat' split
  all_goals first | (exact hf _ _ (by omega)) | (show (-1 : Int) ≤ 0; omega) | (show (-1 : Int) ≤ -1; omega)

/-- What begins at a place, by cases. -/
theorem nx_cases (s : ByteArray) (i : Nat) (hi : i < s.size) :
    nx s i = (0, -1) ∨ nx s i = (0, 0) ∨ (∃ r k : Nat, nx s i = ((r : Int), (k : Int)) ∧ 1 ≤ k ∧ i + k ≤ s.size ∧ signB (r : Int) = true ∧ (k = 1 → r < 128) ∧ Utf8.decode s i = (r, k)) := by
  rcases nx_decode s i hi with ⟨_, h1, h2⟩ | ⟨r, k, h1, h2, h3, h4, h5, h6⟩
  · have h3 : -1 ≤ (nx s i).2 := nextN_ge _ _ _ _ _
    rcases (by omega : (nx s i).2 = -1 ∨ (nx s i).2 = 0) with h | h
    · exact .inl (Prod.ext h1 h)
    · exact .inr (.inl (Prod.ext h1 h))
  · cases hs : signB (r : Int)
    · rw [finN_no hs] at h6; exact .inr (.inl h6)
    · rw [finN_yes hs] at h6; exact .inr (.inr ⟨r, k, h6, h1, h2, hs, h4, h5⟩)

/-- What a part stands for, and how many bytes it takes. -/
def partT (s : ByteArray) (i : Nat) : ByteArray × Int :=
  if (part s i).2.2 = 1 then (⟨#[]⟩, -1) else if (part s i).2.2 = 0 then (if (part s i).1 = 60 ∧ (part s i).2.1 = 1 then (⟨#[]⟩, 0) else (Utf8.encode (part s i).1, (part s i).2.1)) else (⟨#[]⟩, 0)

theorem ret_si {a c : ByteArray} {b d : Int} (h1 : a = c) (h2 : b = d) : Ending.returned (.tuple #[.string a, .int .i64 b]) = .returned (.tuple #[.string c, .int .i64 d]) := by rw [h1, h2]

set_option maxRecDepth 100000 in
set_option maxHeartbeats 1000000 in
theorem l1Part_plain (s : ByteArray) (i : Nat) (w : World) (hs : s.size ≤ 1099511627776) (hi : i < s.size) (hc : (s.get! i).toNat ≠ 38) :
    Calls Tryd.prog 51 #[.string s, .int .i64 i] w fun e w' => e = .returned (.tuple #[.string (partT s i).1, .int .i64 (partT s i).2]) ∧ Below w.heap.size w w' := by
  have hb : ((s[i].toNat : Int) == 38) = false := beq_eq_false_iff_ne.2 (by rw [get_lt s i hi] at hc; omega)
  have hp : part s i = if (nx s i).2 = -1 then (0, 0, 1) else if (nx s i).2 < 1 then (0, 0, 2) else ((nx s i).1, (nx s i).2, 0) := by unfold part; rw [if_neg hc]
  have hN := fun w => l1Next_any s i w (by omega) hi
  unfold Pair at hN
  clear hc
  rcases nx_cases s i hi with h | h | ⟨r, k, h, h1, h2, h3, h4, h5⟩
  · rw [h] at hN hp
    have e : partT s i = (⟨#[]⟩, -1) := by unfold partT; rw [hp]; rfl
    rw [e]
    clear e hp h
    go_enter Tryd.func51, Tryd.ntmps51
    go_wp2_with (go_at_call 73; refine (hN _).mono ?_; rintro e w' ⟨rfl, hg⟩)
    go_wp2
    go_ret2
    exact ⟨rfl, hg⟩
  · rw [h] at hN hp
    have e : partT s i = (⟨#[]⟩, 0) := by unfold partT; rw [hp]; rfl
    rw [e]
    clear e hp h
    go_enter Tryd.func51, Tryd.ntmps51
    go_wp2_with (go_at_call 73; refine (hN _).mono ?_; rintro e w' ⟨rfl, hg⟩)
    go_wp2
    go_ret2
    exact ⟨rfl, hg⟩
  · rw [h] at hN hp
    rw [if_neg (show ¬ ((k : Nat) : Int) = -1 by omega), if_neg (show ¬ ((k : Nat) : Int) < 1 by omega)] at hp
    have hk1 : ¬ ((k : Nat) : Int) < 1 := by omega
    by_cases h60 : r = 60
    · have hk : k = 1 := by
        have he := encode_at s i r k hi h5 h4 h3
        have hl := congrArg List.length he
        rw [h60] at hl
        have : (Utf8.encode ((60 : Nat) : Int)).data.toList.length = 1 := by decide +kernel
        rw [this, List.length_take, List.length_drop] at hl
        have h9 : s.data.toList.length = s.size := rfl
        omega
      subst h60
      subst hk
      have e : partT s i = (⟨#[]⟩, 0) := by unfold partT; rw [hp]; rfl
      rw [e]
      clear e hp h
      go_enter Tryd.func51, Tryd.ntmps51
      go_wp2_with (go_at_call 73; refine (hN _).mono ?_; rintro e w' ⟨rfl, hg⟩)
      go_wp2
      go_ret2
      exact ⟨rfl, hg⟩
    · have e : partT s i = (Utf8.encode (r : Int), (k : Int)) := by
        unfold partT; rw [hp]
        simp only [if_true, show ¬ ((0 : Int) = 1) by omega, if_false]
        rw [if_neg (by omega)]
      rw [e]
      have hx : s.extract i (i + k) = Utf8.encode (r : Int) := by
        apply WideShapes.bytes_inj
        rw [encode_at s i r k hi h5 h4 h3, extract_list, Nat.add_sub_cancel_left]
      obtain ⟨E, hE⟩ : ∃ E, Utf8.encode (r : Int) = E := ⟨_, rfl⟩
      rw [hE] at hx ⊢
      have HX : Hid (s.extract i (i + k) = E) := hx
      have hr : ((r : Int) == 60) = false := beq_eq_false_iff_ne.2 (by omega)
      clear e hp h hx h3 h4 h5 hE
      go_enter Tryd.func51, Tryd.ntmps51
      go_wp2_with (go_at_call 73; refine (hN _).mono ?_; rintro e w' ⟨rfl, hg⟩)
      go_ret2
      exact ⟨ret_si HX.out rfl, hg⟩

theorem entB_parts (c : Nat) : (entB c = true ∧ (0 ≤ hexI c ∨ (hexI c < 0 ∧ 103 ≤ c ∧ c ≤ 122) ∨ (hexI c < 0 ∧ c < 103 ∧ c = 35))) ∨ (entB c = false ∧ hexI c < 0 ∧ (c < 103 ∨ 122 < c) ∧ c ≠ 35) := by
  unfold hexI
  by_cases h1 : 48 ≤ c ∧ c ≤ 57
  · rw [if_pos h1]; exact .inl ⟨decide_eq_true (by omega), .inl (by omega)⟩
  · rw [if_neg h1]
    by_cases h2 : 97 ≤ c ∧ c ≤ 102
    · rw [if_pos h2]; exact .inl ⟨decide_eq_true (by omega), .inl (by omega)⟩
    · rw [if_neg h2]
      by_cases h3 : 65 ≤ c ∧ c ≤ 70
      · rw [if_pos h3]; exact .inl ⟨decide_eq_true (by omega), .inl (by omega)⟩
      · rw [if_neg h3]
        by_cases h4 : 103 ≤ c ∧ c ≤ 122
        · exact .inl ⟨decide_eq_true (by omega), .inr (.inl ⟨by omega, h4.1, h4.2⟩)⟩
        · by_cases h5 : c = 35
          · exact .inl ⟨decide_eq_true (by omega), .inr (.inr ⟨by omega, by omega, h5⟩)⟩
          · exact .inr ⟨decide_eq_false (by omega), by omega, by omega, h5⟩

/-- What the model hands back of an entity that ends, by its semicolon's place. -/
theorem partT_ent (s : ByteArray) (i j : Nat) (hc : (s.get! i).toNat = 38) (hj : 1 ≤ j) (h : entScan s i 9 1 = (j : Int)) :
    partT s i = if (entT (sub s (i + 1) (i + j))).2 = true then ((entT (sub s (i + 1) (i + j))).1, (j : Int) + 1) else (⟨#[]⟩, 0) := by
  have hp : part s i = if signB (entNum (sub s (i + 1) (i + j))) = true then (entNum (sub s (i + 1) (i + j)), (j : Int) + 1, 0) else (0, 0, 2) := by
    unfold part entPart
    rw [if_pos hc, h, if_neg (by omega), if_neg (by omega), Int.toNat_natCast]
  unfold partT
  rw [hp]
  unfold entT
  cases hs : signB (entNum (sub s (i + 1) (i + j)))
  · simp
  · simp only [if_true, show ¬ ((0 : Int) = 1) by omega, if_false]
    rw [if_neg (by omega)]

set_option maxRecDepth 100000 in
set_option maxHeartbeats 4000000 in
theorem l1Part_ent (s : ByteArray) (i : Nat) (w : World) (hs : s.size ≤ 1099511627776) (hi : i < s.size) (hc : (s.get! i).toNat = 38) :
    Calls Tryd.prog 51 #[.string s, .int .i64 i] w fun e w' => e = .returned (.tuple #[.string (partT s i).1, .int .i64 (partT s i).2]) ∧ Below w.heap.size w w' := by
  have hb : ((s[i].toNat : Int) != 38) = false := by rw [bne_eq_false_iff_eq]; rw [get_lt s i hi] at hc; omega
  have hent := fun j => partT_ent s i j hc
  have hbad : entScan s i 9 1 = 0 → partT s i = (⟨#[]⟩, 0) := fun h => by unfold partT part entPart; rw [if_pos hc, h]; rfl
  have hcut : entScan s i 9 1 = -1 → partT s i = (⟨#[]⟩, -1) := fun h => by unfold partT part entPart; rw [if_pos hc, h]; rfl
  obtain ⟨T, hT⟩ : ∃ T, partT s i = T := ⟨_, rfl⟩
  rw [hT] at hent hbad hcut ⊢
  have HE : Hid (∀ j : Nat, 1 ≤ j → entScan s i 9 1 = (j : Int) → T = if (entT (sub s (i + 1) (i + j))).2 = true then ((entT (sub s (i + 1) (i + j))).1, (j : Int) + 1) else (⟨#[]⟩, 0)) := hent
  have HB : Hid (entScan s i 9 1 = 0 → T = (⟨#[]⟩, 0)) := hbad
  have HC : Hid (entScan s i 9 1 = -1 → T = (⟨#[]⟩, -1)) := hcut
  clear hT hent hbad hcut hc
  go_enter Tryd.func51, Tryd.ntmps51
  go_wp2_with fail
  go_loop [8] (fun a => ∃ j : Nat, a = .int .i64 j ∧ i + 1 ≤ j ∧ j ≤ i + 10 ∧ j ≤ s.size ∧ Hid (entScan s i (10 - (j - i)) (j - i) = entScan s i 9 1)) (fun a => 20 + i - (intOf a).toNat)
  case atStart => exact ⟨i + 1, by go_num, by omega, by omega, by omega, (by rw [Nat.add_sub_cancel_left] : entScan s i (10 - (i + 1 - i)) (i + 1 - i) = entScan s i 9 1)⟩
  case round =>
    obtain ⟨j, rfl, hj1, hj2, hj3, hsc⟩ := hrel
    obtain ⟨k, hkj⟩ : ∃ k, j = i + k := ⟨j - i, by omega⟩
    subst hkj
    rw [Nat.add_sub_cancel_left] at hsc
    have hk1 : 1 ≤ k := by omega
    have hk2 : k ≤ 10 := by omega
    have hk3 : i + k ≤ s.size := by omega
    by_cases hend : i + k < s.size ∧ k < 10
    · obtain ⟨hlt, hk10⟩ := hend
      have hsc2 := hsc.out
      obtain ⟨f, hf⟩ : ∃ f, 10 - k = f + 1 := ⟨9 - k, by omega⟩
      rw [hf] at hsc2
      unfold entScan at hsc2
      rw [if_neg (by omega), get_lt s _ hlt] at hsc2
      have hc256 : (s[i + k]'hlt).toNat < 256 := UInt8.toNat_lt _
      obtain ⟨c, hcc⟩ : ∃ c, (s[i + k]'hlt).toNat = c := ⟨_, rfl⟩
      rw [hcc] at hsc2 hc256
      by_cases h59 : c = 59
      · rw [if_pos h59] at hsc2
        have hTj := HE.out k hk1 hsc2.symm
        have hx : (s.extract (i + 1) (i + k)).data.toList = sub s (i + 1) (i + k) := by rw [extract_list]; rfl
        have hxs : (s.extract (i + 1) (i + k)).size ≤ 8 := by
          have h1 : (s.extract (i + 1) (i + k)).size = (s.extract (i + 1) (i + k)).data.toList.length := rfl
          rw [h1, extract_list, List.length_take]
          omega
        have hen := fun w => l1Entity_any (s.extract (i + 1) (i + k)) w hxs
        rw [hx] at hen
        subst h59
        obtain ⟨ET, hET⟩ : ∃ ET, entT (sub s (i + 1) (i + k)) = ET := ⟨_, rfl⟩
        rw [hET] at hen hTj
        obtain ⟨t1, t2⟩ := ET
        simp only at hen hTj
        clear hsc hsc2 HE HB HC hET hx hxs hf
        cases t2
        · simp only [Bool.false_eq_true, if_false] at hTj
          subst hTj
          go_wp2_with (go_at_call 75; refine (hen _).mono ?_; rintro e w' ⟨rfl, hg⟩)
          go_ret2
          exact ⟨rfl, hg⟩
        · simp only [if_true] at hTj
          subst hTj
          go_wp2_with (go_at_call 75; refine (hen _).mono ?_; rintro e w' ⟨rfl, hg⟩)
          go_ret2
          exact ⟨ret_si rfl (by omega), hg⟩
      · rw [if_neg h59] at hsc2
        have h59i : ((c : Int) == 59) = false := beq_eq_false_iff_ne.2 (by omega)
        have H1 := l1Hex_any c hc256
        rcases entB_parts c with ⟨he, hp⟩ | ⟨he, hp⟩
        · rw [if_neg (by rw [he]; decide)] at hsc2
          have hnew : Hid (entScan s i (10 - (k + 1)) (k + 1) = entScan s i 9 1) := by
            have h9 : 10 - (k + 1) = f := by omega
            rw [h9]
            by_cases f0 : f = 0
            · rw [if_pos f0] at hsc2; rw [f0]; exact hsc2
            · rw [if_neg f0] at hsc2; exact hsc2
          obtain ⟨v, hv⟩ : ∃ v, hexI c = v := ⟨_, rfl⟩
          rw [hv] at hp H1
          clear hsc hsc2 HE HB HC he hv hf
          rcases hp with hp | ⟨hp1, hp2, hp3⟩ | ⟨hp1, hp2, hp3⟩
          · have hpd : decide (v < 0) = false := decide_eq_false (by omega)
            go_wp2_with (go_at_call 76; refine (H1 _).mono ?_; rintro e w' ⟨rfl, rfl⟩)
            go_round
            case rel => exact ⟨i + k + 1, by go_num, by omega, by omega, by omega, (by rw [show i + k + 1 - i = k + 1 by omega]; exact hnew.out : entScan s i (10 - (i + k + 1 - i)) (i + k + 1 - i) = entScan s i 9 1)⟩
            case measure => simp [intOf]; omega
          · have hpd : decide (v < 0) = true := decide_eq_true (by omega)
            have hp2i : (103 : Int) ≤ (c : Int) := by omega
            have hp3i : (c : Int) ≤ 122 := by omega
            go_wp2_with (go_at_call 76; refine (H1 _).mono ?_; rintro e w' ⟨rfl, rfl⟩)
            go_round
            case rel => exact ⟨i + k + 1, by go_num, by omega, by omega, by omega, (by rw [show i + k + 1 - i = k + 1 by omega]; exact hnew.out : entScan s i (10 - (i + k + 1 - i)) (i + k + 1 - i) = entScan s i 9 1)⟩
            case measure => simp [intOf]; omega
          · have hpd : decide (v < 0) = true := decide_eq_true (by omega)
            subst hp3
            go_wp2_with (go_at_call 76; refine (H1 _).mono ?_; rintro e w' ⟨rfl, rfl⟩)
            go_round
            case rel => exact ⟨i + k + 1, by go_num, by omega, by omega, by omega, (by rw [show i + k + 1 - i = k + 1 by omega]; exact hnew.out : entScan s i (10 - (i + k + 1 - i)) (i + k + 1 - i) = entScan s i 9 1)⟩
            case measure => simp [intOf]; omega
        · rw [if_pos he] at hsc2
          have hTj := HB.out hsc2.symm
          obtain ⟨v, hv⟩ : ∃ v, hexI c = v := ⟨_, rfl⟩
          rw [hv] at hp H1
          obtain ⟨hp1, hp2, hp3⟩ := hp
          subst hTj
          have hpd : decide (v < 0) = true := decide_eq_true (by omega)
          have hp3i : ((c : Int) == 35) = false := beq_eq_false_iff_ne.2 (by omega)
          clear hsc hsc2 HE HB HC he hv hf
          rcases hp2 with hp2 | hp2
          · have hq : decide ((103 : Int) ≤ (c : Int)) = false := decide_eq_false (by omega)
            go_wp2_with (go_at_call 76; refine (H1 _).mono ?_; rintro e w' ⟨rfl, rfl⟩)
            go_ret2
            exact ⟨rfl, Below.refl _ _⟩
          · have hq : decide ((103 : Int) ≤ (c : Int)) = true := decide_eq_true (by omega)
            have hq2 : decide ((c : Int) ≤ 122) = false := decide_eq_false (by omega)
            go_wp2_with (go_at_call 76; refine (H1 _).mono ?_; rintro e w' ⟨rfl, rfl⟩)
            go_ret2
            exact ⟨rfl, Below.refl _ _⟩
    · by_cases hlt : i + k < s.size
      · have hk10 : k = 10 := by omega
        subst hk10
        have hTj := HB.out (by rw [← hsc.out]; rfl)
        subst hTj
        clear hsc HE HB HC
        go_wp2_with fail
        go_ret2
        exact ⟨rfl, Below.refl _ _⟩
      · by_cases hk10 : k = 10
        · subst hk10
          have hTj := HB.out (by rw [← hsc.out]; rfl)
          subst hTj
          clear hsc HE HB HC
          go_wp2_with fail
          go_ret2
          exact ⟨rfl, Below.refl _ _⟩
        · obtain ⟨f, hf⟩ : ∃ f, 10 - k = f + 1 := ⟨9 - k, by omega⟩
          have hsc2 := hsc.out
          rw [hf] at hsc2
          unfold entScan at hsc2
          rw [if_pos (by omega)] at hsc2
          have hTj := HC.out hsc2.symm
          subst hTj
          clear hsc hsc2 HE HB HC hf
          go_wp2_with fail
          go_ret2
          exact ⟨rfl, Below.refl _ _⟩
end Go.Proofs.YtbcledidadjddaaDoor.Hub
