/-
  The model's l1Hex, l1Starts, l1Base, l1Entity, l1Less: each answers the plain function that is named, of texts of the size that an entity can have.
-/
import Derived.Test.YtbcledidadjddaaDoorEntPlain
namespace Go.Proofs.YtbcledidadjddaaDoor.Hub
open Go.RowKit Go.Lib
set_option linter.unusedVariables false

def hexI (c : Nat) : Int := if 48 ≤ c ∧ c ≤ 57 then (c : Int) - 48 else if 97 ≤ c ∧ c ≤ 102 then (c : Int) - 87 else if 65 ≤ c ∧ c ≤ 70 then (c : Int) - 55 else -1

set_option maxRecDepth 100000 in
set_option maxHeartbeats 1000000 in
theorem l1Hex_any (c : Nat) (hc : c < 256) (w : World) :
    Calls Tryd.prog 76 #[.int .u8 (c : Int)] w fun e w' => e = .returned (.int .i64 (hexI c)) ∧ w' = w := by
  rcases (by omega : c < 48 ∨ (48 ≤ c ∧ c ≤ 57) ∨ (57 < c ∧ c < 65) ∨ (65 ≤ c ∧ c ≤ 70) ∨ (70 < c ∧ c < 97) ∨ (97 ≤ c ∧ c ≤ 102) ∨ 102 < c) with h | h | h | h | h | h | h
  all_goals
    go_enter Tryd.func76, Tryd.ntmps76
    go_wp2
  all_goals
    go_ret
    exact ⟨ret_int (by unfold hexI; first | (rw [if_pos (by omega)]; done) | (rw [if_neg (by omega), if_pos (by omega)]; omega) | (rw [if_neg (by omega), if_neg (by omega), if_pos (by omega)]; omega) | (rw [if_neg (by omega), if_neg (by omega), if_neg (by omega)])), rfl⟩

theorem hexI_dig (c b : Nat) (hb : b = 10 ∨ b = 16) : (0 ≤ hexI c ∧ hexI c < b ∧ digV c < b ∧ hexI c = (digV c : Int)) ∨ ((hexI c < 0 ∨ (b : Int) ≤ hexI c) ∧ ¬ digV c < b ∧ hexI c ≤ 15) := by
  unfold hexI digV
  by_cases h1 : 48 ≤ c ∧ c ≤ 57
  · rw [if_pos h1, if_pos h1]; left; omega
  · rw [if_neg h1, if_neg h1]
    by_cases h2 : 97 ≤ c ∧ c ≤ 102
    · rw [if_pos h2, if_pos (by omega)]; omega
    · rw [if_neg h2]
      by_cases h3 : 65 ≤ c ∧ c ≤ 70
      · rw [if_pos h3, if_neg (by omega), if_pos (by omega)]; omega
      · rw [if_neg h3]
        right
        refine ⟨.inl (by omega), ?_, by omega⟩
        by_cases h4 : 97 ≤ c ∧ c ≤ 122
        · rw [if_pos h4]; omega
        · rw [if_neg h4]
          by_cases h5 : 65 ≤ c ∧ c ≤ 90
          · rw [if_pos h5]; omega
          · rw [if_neg h5]; omega

theorem extract_end (s : ByteArray) (a : Nat) : (s.extract a s.size).data.toList = s.data.toList.drop a := by
  rw [extract_list, List.take_of_length_le (by rw [List.length_drop]; exact Nat.le_refl _)]
theorem list_ne (s : ByteArray) (h : 0 < s.size) : s.data.toList ≠ [] := by
  intro e
  have h1 : s.size = s.data.toList.length := rfl
  rw [e] at h1
  have h2 : ([] : List UInt8).length = 0 := rfl
  omega
theorem drop_cons (s : ByteArray) (k : Nat) (h : k < s.size) : s.data.toList.drop k = s[k] :: s.data.toList.drop (k + 1) := List.drop_eq_getElem_cons (show k < s.data.toList.length from h)

set_option maxRecDepth 100000 in
set_option maxHeartbeats 2000000 in
theorem l1Base_any (b : Nat) (hb : b = 10 ∨ b = 16) (s : ByteArray) (hs : s.size ≤ 7) (w : World) :
    Calls Tryd.prog 90 #[.string s, .int .i64 (b : Int)] w fun e w' => e = .returned (.int .i64 (numI b s.data.toList)) ∧ w' = w := by
  obtain ⟨RES, hRES⟩ : ∃ RES, parseB b 0 s.data.toList = RES := ⟨_, rfl⟩
  have hb1 : (10 : Int) ≤ (b : Int) := by omega
  have hb2 : (b : Int) ≤ 16 := by omega
  go_enter Tryd.func90, Tryd.ntmps90
  go_wp2_with fail
  go_loop [5, 6] (fun n i => ∃ (k acc : Nat) (a : Int), i = .int .i64 k ∧ n = .int .i64 a ∧ k ≤ s.size ∧ Hid (a = (acc : Int) ∧ acc < 16 ^ k ∧ parseB b acc (s.data.toList.drop k) = RES)) (fun _ i => s.size - (RowKit.intOf i).toNat)
  case atStart => exact ⟨0, 0, 0, rfl, rfl, by omega, rfl, by decide, hRES⟩
  case round =>
    obtain ⟨k, acc, a, rfl, rfl, hk, hh⟩ := hrel
    obtain ⟨ha, hacc, hdec⟩ := hh.out
    have HR : Hid (parseB b 0 s.data.toList = RES) := hRES
    clear hh hRES
    by_cases hlt : k < s.size
    · have hpw := pow_le k (by omega)
      have a0 : 0 ≤ a := by omega
      have a1 : a < 16777216 := by omega
      have hpow : 16 ^ (k + 1) = 16 ^ k * 16 := Nat.pow_succ ..
      rw [drop_cons s k hlt] at hdec
      have hc256 : s[k].toNat < 256 := UInt8.toNat_lt _
      have hne : s.data.toList ≠ [] := list_ne s (by omega)
      have hd := hexI_dig s[k].toNat b hb
      obtain ⟨c, hc⟩ : ∃ c, s[k].toNat = c := ⟨_, rfl⟩
      have yes : ∀ d : Nat, digV c = d → d < b → Hid (a * b + (d : Int) = ((acc * b + d : Nat) : Int) ∧ acc * b + d < 16 ^ (k + 1) ∧ parseB b (acc * b + d) (s.data.toList.drop (k + 1)) = RES) := fun d h1 h2 => Lib.hid ⟨by rw [ha]; push_cast; rfl, by rcases hb with rfl | rfl <;> omega, by rw [← hdec, parseB_yes (by rw [hc, h1]; exact h2), hc, h1]⟩
      have no : ¬ digV c < b → Hid (numI b s.data.toList = -1) := fun h => Lib.hid (by unfold numI; rw [if_neg hne, HR.out, ← hdec, parseB_no (by rw [hc]; exact h)])
      rw [hc] at hd hc256
      clear hdec hacc hpow hpw ha HR hne
      obtain ⟨v, hv⟩ : ∃ v, hexI c = v := ⟨_, rfl⟩
      rw [hv] at hd
      have H1 := l1Hex_any c hc256
      rw [hv] at H1
      clear hv
      rcases hd with ⟨h1, h2, h3, h4⟩ | ⟨h1, h3, h5⟩
      · have HN := yes _ rfl h3
        rw [← h4] at HN
        clear yes no h3 h4
        have hm : 0 ≤ a * (b : Int) := Int.mul_nonneg a0 (by omega)
        have hm2 : a * (b : Int) ≤ 16777216 * 16 := Int.mul_le_mul (by omega) hb2 (by omega) (by omega)
        go_wp2_with (go_at_call 76; refine (H1 _).mono ?_; rintro e w' ⟨rfl, rfl⟩)
        go_round
        case rel => exact ⟨k + 1, _, a * b + v, by go_num, rfl, by omega, HN⟩
        case measure => simp [RowKit.intOf]; omega
      · have HN := no h3
        clear yes no h3
        rcases h1 with h1 | h1
        all_goals
          go_wp2_with (go_at_call 76; refine (H1 _).mono ?_; rintro e w' ⟨rfl, rfl⟩)
          go_ret
          exact ⟨ret_int HN.out.symm, rfl⟩
    · have hk' : k = s.size := by omega
      rw [List.drop_eq_nil_of_le (by have : s.data.toList.length = s.size := rfl; omega)] at hdec
      have hres : parseB b 0 s.data.toList = some acc := by rw [HR.out, ← hdec]; rfl
      rcases (by omega : s.size = 0 ∨ 0 < s.size) with h0 | h0
      · have HN : Hid (numI b s.data.toList = -1) := Lib.hid (by
          unfold numI
          have h1 : s.data.toList.length = s.size := rfl
          rw [if_pos (List.eq_nil_of_length_eq_zero (by omega))])
        have hz : ((s.size : Int) == 0) = true := beq_iff_eq.2 (by omega)
        clear hres hdec hacc HR
        go_wp2_with fail
        go_ret
        exact ⟨ret_int HN.out.symm, rfl⟩
      · have HN : Hid (numI b s.data.toList = a) := Lib.hid (by
          unfold numI
          rw [if_neg (list_ne s h0), hres, ha])
        have hz : ((s.size : Int) == 0) = false := beq_eq_false_iff_ne.2 (by omega)
        have h7 : decide ((7 : Int) < (s.size : Int)) = false := decide_eq_false (by omega)
        clear hres hdec hacc HR ha
        go_wp2_with fail
        go_ret
        exact ⟨ret_int HN.out.symm, rfl⟩

/-- Whether a text begins with another. -/
theorem starts_eq (s h : ByteArray) (hh : h.size ≤ s.size) : ((s.extract 0 h.size).toList == h.toList) = Lib.hasPrefix s.data.toList h.data.toList := by
  rw [ByteArray.toList_eq, ByteArray.toList_eq, extract_list]
  have h1 : h.size = h.data.toList.length := rfl
  rw [Nat.sub_zero, List.drop_zero, h1, Bool.eq_iff_iff]
  unfold Lib.hasPrefix
  rw [beq_iff_eq, List.isPrefixOf_iff_prefix, List.prefix_iff_eq_take]
  exact eq_comm

theorem starts_short (s h : ByteArray) (hh : ¬ h.size ≤ s.size) : Lib.hasPrefix s.data.toList h.data.toList = false := by
  cases e : Lib.hasPrefix s.data.toList h.data.toList
  · rfl
  · exfalso
    unfold Lib.hasPrefix at e
    rw [List.isPrefixOf_iff_prefix] at e
    have := e.length_le
    exact hh this

set_option maxHeartbeats 1000000 in
theorem l1Starts_any (s h : ByteArray) (w : World) (hs : s.size ≤ 100) :
    Calls Tryd.prog 89 #[.string s, .string h] w fun e w' => e = .returned (.bool (Lib.hasPrefix s.data.toList h.data.toList)) ∧ w' = w := by
  by_cases hh : h.size ≤ s.size
  · have he := starts_eq s h hh
    have HE : Hid (((s.extract 0 h.size).toList == h.toList) = Lib.hasPrefix s.data.toList h.data.toList) := he
    clear he
    have h1 : (h.size : Int) ≤ (s.size : Int) := by omega
    go_enter Tryd.func89, Tryd.ntmps89
    go_wp2_with fail
    go_ret
    exact ⟨ret_bool HE.out, rfl⟩
  · have he := starts_short s h hh
    rw [he]
    clear he
    have h1 : ¬ (h.size : Int) ≤ (s.size : Int) := by omega
    go_enter Tryd.func89, Tryd.ntmps89
    go_wp2_with fail
    go_ret
    exact ⟨rfl, rfl⟩

/-- What an entity's name stands for, and whether it stands for something. -/
def entT (l : List UInt8) : ByteArray × Bool := if signB (entNum l) = true then (Utf8.encode (entNum l), true) else (⟨#[]⟩, false)
theorem ret_sb {a c : ByteArray} {b d : Bool} (h1 : a = c) (h2 : b = d) : Ending.returned (.tuple #[.string a, .bool b]) = .returned (.tuple #[.string c, .bool d]) := by rw [h1, h2]

theorem beq_list (s : ByteArray) (l : List UInt8) : (s.toList == l) = decide (s.data.toList = l) := by
  rw [ByteArray.toList_eq, Bool.eq_iff_iff]
  simp

set_option maxRecDepth 100000 in
set_option maxHeartbeats 2000000 in
theorem l1Entity_any (s : ByteArray) (w : World) (hs : s.size ≤ 8) :
    Calls Tryd.prog 75 #[.string s] w fun e w' => e = .returned (.tuple #[.string (entT s.data.toList).1, .bool (entT s.data.toList).2]) ∧ Below w.heap.size w w' := by
  have hb := beq_list s
  obtain ⟨T, hT⟩ : ∃ T, entT s.data.toList = T := ⟨_, rfl⟩
  rw [hT]
  have HT : Hid (entT s.data.toList = T) := hT
  clear hT
  by_cases c1 : s.data.toList = [97, 109, 112]
  · have b1 : (s.toList == [97, 109, 112]) = true := by rw [hb]; simp [c1]
    have e : T = (⟨#[38]⟩, true) := by rw [← HT.out, c1]; decide +kernel
    subst e
    clear hb c1
    go_enter Tryd.func75, Tryd.ntmps75
    go_wp2_with fail
    go_ret2
    exact ⟨rfl, Below.refl _ _⟩
  have b1 : (s.toList == [97, 109, 112]) = false := by rw [hb]; simp [c1]
  by_cases c2 : s.data.toList = [108, 116]
  · have b2 : (s.toList == [108, 116]) = true := by rw [hb]; simp [c2]
    have e : T = (⟨#[60]⟩, true) := by rw [← HT.out, c2]; decide +kernel
    subst e
    clear hb c1 c2
    go_enter Tryd.func75, Tryd.ntmps75
    go_wp2_with fail
    go_ret2
    exact ⟨rfl, Below.refl _ _⟩
  have b2 : (s.toList == [108, 116]) = false := by rw [hb]; simp [c2]
  by_cases c3 : s.data.toList = [103, 116]
  · have b3 : (s.toList == [103, 116]) = true := by rw [hb]; simp [c3]
    have e : T = (⟨#[62]⟩, true) := by rw [← HT.out, c3]; decide +kernel
    subst e
    clear hb c1 c2 c3
    go_enter Tryd.func75, Tryd.ntmps75
    go_wp2_with fail
    go_ret2
    exact ⟨rfl, Below.refl _ _⟩
  have b3 : (s.toList == [103, 116]) = false := by rw [hb]; simp [c3]
  by_cases c4 : s.data.toList = [113, 117, 111, 116]
  · have b4 : (s.toList == [113, 117, 111, 116]) = true := by rw [hb]; simp [c4]
    have e : T = (⟨#[34]⟩, true) := by rw [← HT.out, c4]; decide +kernel
    subst e
    clear hb c1 c2 c3 c4
    go_enter Tryd.func75, Tryd.ntmps75
    go_wp2_with fail
    go_ret2
    exact ⟨rfl, Below.refl _ _⟩
  have b4 : (s.toList == [113, 117, 111, 116]) = false := by rw [hb]; simp [c4]
  by_cases c5 : s.data.toList = [97, 112, 111, 115]
  · have b5 : (s.toList == [97, 112, 111, 115]) = true := by rw [hb]; simp [c5]
    have e : T = (⟨#[39]⟩, true) := by rw [← HT.out, c5]; decide +kernel
    subst e
    clear hb c1 c2 c3 c4 c5
    go_enter Tryd.func75, Tryd.ntmps75
    go_wp2_with fail
    go_ret2
    exact ⟨rfl, Below.refl _ _⟩
  have b5 : (s.toList == [97, 112, 111, 115]) = false := by rw [hb]; simp [c5]
  have hn : entNum s.data.toList = if Lib.hasPrefix s.data.toList [35, 120] = true then numI 16 (s.data.toList.drop 2) else if Lib.hasPrefix s.data.toList [35] = true then numI 10 (s.data.toList.drop 1) else -1 := by
    unfold entNum
    rw [if_neg c1, if_neg c2, if_neg c3, if_neg c4, if_neg c5]
  clear hb c1 c2 c3 c4 c5
  have hst := fun (h : ByteArray) (w : World) => l1Starts_any s h w (by omega)
  have q1 := hst ⟨#[35, 120]⟩
  have q2 := hst ⟨#[35]⟩
  have len2 : ∀ l : List UInt8, Lib.hasPrefix s.data.toList l = true → l.length ≤ s.size := fun l h => by
    unfold Lib.hasPrefix at h
    rw [List.isPrefixOf_iff_prefix] at h
    exact h.length_le
  clear hst
  obtain ⟨v, hv⟩ : ∃ v, entNum s.data.toList = v := ⟨_, rfl⟩
  have hT2 : T = if signB v = true then (Utf8.encode v, true) else (⟨#[]⟩, false) := by rw [← HT.out]; unfold entT; rw [hv]
  rw [hv] at hn
  clear hv HT
  cases p1 : Lib.hasPrefix s.data.toList [35, 120]
  · cases p2 : Lib.hasPrefix s.data.toList [35]
    · have q1' : ∀ w, Calls Tryd.prog 89 #[.string s, .string ⟨#[35, 120]⟩] w fun e w' => e = .returned (.bool false) ∧ w' = w := fun w => by have := q1 w; rw [show (⟨#[35, 120]⟩ : ByteArray).data.toList = [35, 120] from rfl, p1] at this; exact this
      have q2' : ∀ w, Calls Tryd.prog 89 #[.string s, .string ⟨#[35]⟩] w fun e w' => e = .returned (.bool false) ∧ w' = w := fun w => by have := q2 w; rw [show (⟨#[35]⟩ : ByteArray).data.toList = [35] from rfl, p2] at this; exact this
      rw [p1, p2] at hn
      have e : T = (⟨#[]⟩, false) := by rw [hT2, hn]; rfl
      subst e
      have hsg : signB (-1) = false := by decide
      clear hT2 hn p1 p2 q1 q2 len2
      go_enter Tryd.func75, Tryd.ntmps75
      go_wp2_with fail
      refine (q1' _).mono ?_
      rintro e w1 ⟨rfl, rfl⟩
      go_wp2_with fail
      refine (q2' _).mono ?_
      rintro e w1 ⟨rfl, rfl⟩
      go_wp2_with (go_at_call 41; refine (l1Sign_any _ _).mono ?_; rintro e w' ⟨rfl, rfl⟩)
      go_ret2
      exact ⟨rfl, Below.refl _ _⟩
    · have hsz := len2 _ p2
      have hsz2 : 1 ≤ s.size := hsz
      have hex : (s.extract 1 s.size).data.toList = s.data.toList.drop 1 := extract_end s 1
      have hexs : (s.extract 1 s.size).size ≤ 7 := by
        have h1 : (s.extract 1 s.size).size = (s.extract 1 s.size).data.toList.length := rfl
        have h2 : s.data.toList.length = s.size := rfl
        rw [h1, hex, List.length_drop]
        omega
      have qb := fun w => l1Base_any 10 (.inl rfl) (s.extract 1 s.size) hexs w
      rw [hex] at qb
      have q1' : ∀ w, Calls Tryd.prog 89 #[.string s, .string ⟨#[35, 120]⟩] w fun e w' => e = .returned (.bool false) ∧ w' = w := fun w => by have := q1 w; rw [show (⟨#[35, 120]⟩ : ByteArray).data.toList = [35, 120] from rfl, p1] at this; exact this
      have q2' : ∀ w, Calls Tryd.prog 89 #[.string s, .string ⟨#[35]⟩] w fun e w' => e = .returned (.bool true) ∧ w' = w := fun w => by have := q2 w; rw [show (⟨#[35]⟩ : ByteArray).data.toList = [35] from rfl, p2] at this; exact this
      rw [p1, p2] at hn
      simp only [Bool.false_eq_true, if_false, if_true] at hn
      rw [← hn] at qb
      have hi : (1 : Int) ≤ (s.size : Int) := by omega
      cases hsg : signB v
      · rw [hsg] at hT2
        simp only [Bool.false_eq_true, if_false] at hT2
        subst hT2
        clear hn p1 p2 q1 q2 len2 hex hexs hsz
        go_enter Tryd.func75, Tryd.ntmps75
        go_wp2_with fail
        refine (q1' _).mono ?_
        rintro e w1 ⟨rfl, rfl⟩
        go_wp2_with fail
        refine (q2' _).mono ?_
        rintro e w1 ⟨rfl, rfl⟩
        go_wp2_with fail
        refine (qb _).mono ?_
        rintro e w1 ⟨rfl, rfl⟩
        go_wp2_with (go_at_call 41; refine (l1Sign_any _ _).mono ?_; rintro e w' ⟨rfl, rfl⟩)
        go_ret2
        exact ⟨rfl, Below.refl _ _⟩
      · rw [hsg] at hT2
        simp only [if_true] at hT2
        subst hT2
        clear hn p1 p2 q1 q2 len2 hex hexs hsz
        go_enter Tryd.func75, Tryd.ntmps75
        go_wp2_with fail
        refine (q1' _).mono ?_
        rintro e w1 ⟨rfl, rfl⟩
        go_wp2_with fail
        refine (q2' _).mono ?_
        rintro e w1 ⟨rfl, rfl⟩
        go_wp2_with fail
        refine (qb _).mono ?_
        rintro e w1 ⟨rfl, rfl⟩
        go_wp2_with (go_at_call 41; refine (l1Sign_any _ _).mono ?_; rintro e w' ⟨rfl, rfl⟩)
        refine (l1Put_any v _ hsg).mono ?_
        rintro e w2 ⟨rfl, hbl⟩
        go_wp2_with fail
        go_ret2
        exact ⟨rfl, hbl⟩
  · have hsz := len2 _ p1
    have hsz2 : 2 ≤ s.size := hsz
    have hex : (s.extract 2 s.size).data.toList = s.data.toList.drop 2 := extract_end s 2
    have hexs : (s.extract 2 s.size).size ≤ 7 := by
      have h1 : (s.extract 2 s.size).size = (s.extract 2 s.size).data.toList.length := rfl
      have h2 : s.data.toList.length = s.size := rfl
      rw [h1, hex, List.length_drop]
      omega
    have qb := fun w => l1Base_any 16 (.inr rfl) (s.extract 2 s.size) hexs w
    rw [hex] at qb
    have q1' : ∀ w, Calls Tryd.prog 89 #[.string s, .string ⟨#[35, 120]⟩] w fun e w' => e = .returned (.bool true) ∧ w' = w := fun w => by have := q1 w; rw [show (⟨#[35, 120]⟩ : ByteArray).data.toList = [35, 120] from rfl, p1] at this; exact this
    rw [p1] at hn
    simp only [if_true] at hn
    rw [← hn] at qb
    have hi : (2 : Int) ≤ (s.size : Int) := by omega
    cases hsg : signB v
    · rw [hsg] at hT2
      simp only [Bool.false_eq_true, if_false] at hT2
      subst hT2
      clear hn p1 q1 q2 len2 hex hexs hsz
      go_enter Tryd.func75, Tryd.ntmps75
      go_wp2_with fail
      refine (q1' _).mono ?_
      rintro e w1 ⟨rfl, rfl⟩
      go_wp2_with fail
      refine (qb _).mono ?_
      rintro e w1 ⟨rfl, rfl⟩
      go_wp2_with (go_at_call 41; refine (l1Sign_any _ _).mono ?_; rintro e w' ⟨rfl, rfl⟩)
      go_ret2
      exact ⟨rfl, Below.refl _ _⟩
    · rw [hsg] at hT2
      simp only [if_true] at hT2
      subst hT2
      clear hn p1 q1 q2 len2 hex hexs hsz
      go_enter Tryd.func75, Tryd.ntmps75
      go_wp2_with fail
      refine (q1' _).mono ?_
      rintro e w1 ⟨rfl, rfl⟩
      go_wp2_with fail
      refine (qb _).mono ?_
      rintro e w1 ⟨rfl, rfl⟩
      go_wp2_with (go_at_call 41; refine (l1Sign_any _ _).mono ?_; rintro e w' ⟨rfl, rfl⟩)
      refine (l1Put_any v _ hsg).mono ?_
      rintro e w2 ⟨rfl, hbl⟩
      go_wp2_with fail
      go_ret2
      exact ⟨rfl, hbl⟩
end Go.Proofs.YtbcledidadjddaaDoor.Hub
