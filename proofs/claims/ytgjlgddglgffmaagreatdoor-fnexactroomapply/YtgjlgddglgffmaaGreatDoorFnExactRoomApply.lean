/-
  For every room and entry the law FnExactRoomApply returns true: impl.RoomApply answers as spec.RoomApply, every field; it writes into no argument, and what it answers owns its memory. Its condition: the two tables of unicode/utf8 are as the library's text lays them (the card ties them to the program's text); the law itself passes rooms and entries whose texts and lists have more than 1048576 bytes and places together by.
-/
import Derived.Test.YtgjlgddglgffmaaGreatDoorRows
import Derived.Test.YtgjlgddglgffmaaGreatDoorTie
import Derived.Test.YtgjlgddglgffmaaGreatDoorCards
import Derived.Test.YtgjlgddglgffmaaGreatDoorArgRoom
import Derived.Test.YtgjlgddglgffmaaGreatDoorArgEntry
import Derived.Test.YtgjlgddglgffmaaGreatDoorApplyAll
import Derived.Test.YtgjlgddglgffmaaGreatDoorAnsAll
import Derived.Test.YtgjlgddglgffmaaGreatDoorMarkAll
import Derived.Lib.LaidU8T
import Derived.Lib.SmallJoins
import Derived.PinnedBridge
import Derived.ProofKit
import Derived.OpenShut
import Derived.ShutString
import Derived.LaidMore
import Derived.Lay
import Derived.SevenTiedAt
import Derived.Stop.Joined
namespace Go.Proofs.YtgjlgddglgffmaaGreatDoor.fnExactRoomApply
open Go.ChangeShapes Go.WideShapes Go.ChangeAt Go.RowKit Go.Shelf
open Go.ChangeMaps (open_string shut_string)
set_option linter.unusedVariables false

theorem below_two {B : Nat} {V W W' : World} {a c : Value} (h : Below B V W) (g : W'.os = W.os ∧ W'.tape = W.tape ∧ W'.output = W.output ∧ W.heap.size ≤ W'.heap.size ∧ ∀ q, q < W.heap.size → a.ownBlock ≠ some q → c.ownBlock ≠ some q → W'.heap[q]? = W.heap[q]?) (hB : B ≤ W.heap.size) (ha : ∀ q, a.ownBlock = some q → B ≤ q) (hc : ∀ q, c.ownBlock = some q → B ≤ q) : Below B V W' := by
  obtain ⟨g1, g2, g3, g4, g5⟩ := g
  refine ⟨g1.trans h.os, g2.trans h.tape, g3.trans h.output, Nat.le_trans h.size g4, fun q hq => ?_⟩
  exact (g5 q (by omega) (fun e => by have := ha q e; omega) (fun e => by have := hc q e; omega)).trans (h.block q hq)
theorem own_heap {W W' : World} {base : Nat} {T : TypeId} {s : Nat} {v : Value} {n : Nat} {g : Nat → List Value} (h : Hub.OwnL W base T s v n g) (hh : ∀ q, v.ownBlock = some q → W'.heap[q]? = W.heap[q]?) : Hub.OwnL W' base T s v n g := by
  refine ⟨h.1, ?_⟩
  rcases h.2 with h2 | ⟨gg, cap, cur, hv, hb, hgg, rest⟩
  · exact .inl h2
  · exact .inr ⟨gg, cap, cur, hv, hb, (hh gg (by rw [hv]; rfl)).trans hgg, rest⟩

set_option maxRecDepth 100000 in
set_option maxHeartbeats 16000000 in
theorem walk (nm sb : ByteArray) (nx : Int) (vm vk : Value) (n : Nat) (U N : Nat → ByteArray) (R : Nat → Int) (z : Nat) (KU : Nat → ByteArray) (KR : Nat → Int) (r : ByteArray) (q kd : Int) (u nk t i fr : ByteArray) (m : Int) (w : World) (hT : Hub.Tabs w) (hnm : nm.size ≤ maxLen) (hsb : sb.size ≤ maxLen) (hm : Hub.MemAt w vm n U N R) (hs : ∀ j, j < n → (U j).size ≤ maxLen ∧ (N j).size ≤ maxLen) (hk : Hub.RankAt w vk z KU KR) (hz : ∀ j, j < z → (KU j).size ≤ maxLen) (hr : r.size ≤ maxLen) (hu : u.size ≤ maxLen) (hnk : nk.size ≤ maxLen) (ht : t.size ≤ maxLen) (hi : i.size ≤ maxLen) (hfr : fr.size ≤ maxLen) :
    Calls Tryz.prog 3 #[Hub.roomV nm nx vm vk sb, Hub.entV r q kd u nk t i fr m] w fun e w' => e = .returned (.bool true) ∧ Below w.heap.size w w' := by
  unfold maxLen at hnm hsb hs hz hr hu hnk ht hi hfr
  obtain ⟨mo, mc, hmv, -⟩ := id hm
  obtain ⟨ko, kc, hkv, -⟩ := id hk
  subst hmv hkv
  obtain ⟨W1, hW1⟩ : ∃ W1, ((w.alloc (.cells #[.string nm, .int .i64 nx, .slice mo n mc, .slice ko z kc, .string sb] 25)).alloc (.cells #[.string r, .int .i64 q, .int .i64 kd, .string u, .string nk, .string t, .string i, .string fr, .int .i64 m] 27)) = W1 := ⟨_, rfl⟩
  have b1 : Below w.heap.size w W1 := by rw [← hW1]; exact ((Below.refl _ w).alloc (Nat.le_refl _) _).alloc (by simp) _
  have s1 : W1.heap.size = w.heap.size + 2 := by rw [← hW1]; simp
  have eA : W1.heap[w.heap.size]? = some (.cells #[.string nm, .int .i64 nx, .slice mo n mc, .slice ko z kc, .string sb] 25 (0, 0)) := by
    rw [← hW1, Below.heap_alloc _ _ _ (by simp)]
    exact World.alloc_heap_new w _
  have eB : W1.heap[w.heap.size + 1]? = some (.cells #[.string r, .int .i64 q, .int .i64 kd, .string u, .string nk, .string t, .string i, .string fr, .int .i64 m] 27 (0, 0)) := by
    rw [← hW1]
    have := World.alloc_heap_new (w.alloc (.cells #[.string nm, .int .i64 nx, .slice mo n mc, .slice ko z kc, .string sb] 25)) (.cells #[.string r, .int .i64 q, .int .i64 kd, .string u, .string nk, .string t, .string i, .string fr, .int .i64 m] 27)
    simpa using this
  have SL : Hid (∀ W, Below W1.heap.size W1 W → W.heap[w.heap.size]? = some (.cells #[.string nm, .int .i64 nx, .slice mo n mc, .slice ko z kc, .string sb] 25 (0, 0)) ∧ W.heap[w.heap.size + 1]? = some (.cells #[.string r, .int .i64 q, .int .i64 kd, .string u, .string nk, .string t, .string i, .string fr, .int .i64 m] 27 (0, 0))) := fun W bb => ⟨(bb.block _ (by omega)).trans eA, (bb.block _ (by omega)).trans eB⟩
  have HM : Hid (∀ W, Below W1.heap.size W1 W → Hub.MemAt W (.slice mo n mc) n U N R) := fun W bb => hm.below (b1.trans (bb.mono b1.size))
  have HK : Hid (∀ W, Below W1.heap.size W1 W → Hub.RankAt W (.slice ko z kc) z KU KR) := fun W bb => hk.below (b1.trans (bb.mono b1.size))
  have HT : Hid (∀ W, Below W1.heap.size W1 W → Hub.Tabs W) := fun W bb => Utf8Tabs_below hT (b1.trans (bb.mono b1.size))
  have cS := Hub.szRoomN_any nm sb nx (.slice mo n mc) (.slice ko z kc) n U N R z KU KR W1 (HM.out W1 (Below.refl _ _)) (HK.out W1 (Below.refl _ _)) (by omega) (by omega) (fun j hj => by have := hs j hj; omega) (fun j hj => by have := hz j hj; omega)
  have HW1 : Hid (((w.alloc (.cells #[.string nm, .int .i64 nx, .slice mo n mc, .slice ko z kc, .string sb] 25)).alloc (.cells #[.string r, .int .i64 q, .int .i64 kd, .string u, .string nk, .string t, .string i, .string fr, .int .i64 m] 27)) = W1) := hW1
  clear hW1 eA eB hm hk hT hs hz
  go_enter Tryz.func3, Tryz.ntmps3
  go_wp2_with fail
  rw [HW1.out]
  go_fit cS
  clear cS
  rintro e w2 ⟨⟨y, rfl, hy⟩, b2⟩
  obtain ⟨cA2, cB2⟩ := SL.out w2 b2
  obtain ⟨x0, x1, x2, x3, x4⟩ := Hub.rm_cells cA2
  obtain ⟨n0, n1, n2, n3, n4, n5, n6, n7, n8⟩ := Hub.nine_at cB2
  rcases hy with hy | ⟨hy, hy1, s2, s3, s4, s5, s6, s7⟩
  · go_wp2_with fail
    go_ret
    exact ⟨rfl, b1.trans (b2.mono b1.size)⟩
  have hyn : ¬ y < 0 := by omega
  go_wp2_with fail
  refine (Hub.szEntryN_any y hy hy1 r q kd u nk t i fr m w2 (by omega) (by omega) (by omega) (by omega) (by omega) (by omega)).mono ?_
  rintro e w3 ⟨⟨y2, rfl, hy2⟩, p3⟩
  have b3 := b2.trans (p3.mono b2.size)
  rcases hy2 with hy2 | ⟨hy2, hes⟩
  · go_wp2_with fail
    go_ret
    exact ⟨rfl, b1.trans (b3.mono b1.size)⟩
  have hy2n : ¬ y2 < 0 := by omega
  have TO : Hid (∀ W, Below W1.heap.size W1 W → _) := fun W (bb : Below W1.heap.size W1 W) => Hub.toRoomN_any nm sb nx (.slice mo n mc) (.slice ko z kc) n U N R z KU KR W (HM.out W bb) (HK.out W bb) s4 s5
  have TE : Hid (∀ W, _) := fun W => Hub.toEntry_any r q kd u nk t i fr m W
  obtain ⟨nA, xA, sA, nn, UA, NA, RA, zz, KA, QA, bb, hnn, hzz, ANS⟩ := Hub.applied_one nm nx sb n U N R z KU KR r q kd u nk t i fr m
  have SP : Hid (∀ W va vb, Hub.MemAt W va n U N R → Hub.RankAt W vb z KU KR → _) := fun W va vb (ha : Hub.MemAt W va n U N R) (hb : Hub.RankAt W vb z KU KR) => (Hub.specApply_any nm sb nx va vb n U N R z KU KR r q kd u nk t i fr m W ha hb (by omega) (by omega) (fun j hj => by have := s6 j hj; omega) (fun j hj => by have := s7 j hj; omega) (by omega) (by omega) (by omega) (by omega) (by omega) (by omega)).mono (fun e w9 h => (⟨ANS W w9 e h.1, h.2⟩ : (∃ v, e = .returned (.tuple #[v, .bool bb]) ∧ Hub.NewRoom W w9 v nA xA sA nn UA NA RA zz KA QA) ∧ Below W.heap.size W w9))
  have IM : Hid (∀ W, Below W1.heap.size W1 W → ∀ va vb, Hub.MemAt W va n U N R → Hub.RankAt W vb z KU KR → _) := fun W (bz : Below W1.heap.size W1 W) va vb (ha : Hub.MemAt W va n U N R) (hb : Hub.RankAt W vb z KU KR) => (Hub.implApply_any nm sb nx va vb n U N R z KU KR r q kd u nk t i fr m W (HT.out W bz) ha hb (by omega) (by omega) (fun j hj => by have := s6 j hj; omega) (fun j hj => by have := s7 j hj; omega) (by omega) (by omega) (by omega) (by omega) (by omega) (by omega)).mono (fun e w9 h => (⟨ANS W w9 e h.1, h.2⟩ : (∃ v, e = .returned (.tuple #[v, .bool bb]) ∧ Hub.NewRoom W w9 v nA xA sA nn UA NA RA zz KA QA) ∧ Below W.heap.size W w9))
  have hbb : (bb != bb) = false := bne_self_eq_false bb
  have hmk : 1 + 3 * n + 2 * z ≤ 8000000 := by omega
  have hmk2 : 1 + 3 * nn + 2 * zz ≤ 8000000 := by omega
  clear ANS s2 s3 s6 s7 hes hnm hsb hr hu hnk ht hi hfr cA2 cB2 x0 x1 x2 x3 x4 n0 n1 n2 n3 n4 n5 n6 n7 n8
  go_wp2_with fail
  rename_i K1 hK1
  have TAIL8 : Hid (∀ (E8 : Nat) (W8 : World) (co : Option Addr) (cc : Nat) (so : Option Addr) (sc : Nat) (u16 u17 u18 u19 u20 u21 u22 u23 u24 u25 u26 u27 u28 u29 u30 u31 u32 u33 : Value), Below W1.heap.size W1 W8 → W8.heap[E8]? = some (.cells #[.string nA, .int .i64 xA, .slice co nn cc, .slice so zz sc, .string sA] 33 (0, 0)) → Hub.MemAt W8 (.slice co nn cc) nn UA NA RA → Hub.RankAt W8 (.slice so zz sc) zz KA QA → K1 ⟨#[Hub.roomV nm nx (.slice mo n mc) (.slice ko z kc) sb, Hub.entV r q kd u nk t i fr m, .pointer (some ⟨w.heap.size, 0, none⟩), .pointer (some ⟨w.heap.size + 1, 0, none⟩), .bool false, .int .i64 y2, .pointer (some ⟨E8, 0, none⟩), .bool bb, undef, undef, undef, undef, undef, undef, undef, undef, u16, u17, u18, u19, u20, u21, u22, u23, u24, u25, u26, u27, u28, u29, u30, u31, u32, u33, undef, undef, undef, undef, undef, undef, undef, undef, undef, undef, undef, undef, undef, undef, undef, undef, undef, undef, undef, undef, undef, undef, undef, undef, undef, undef, undef, undef, undef, undef, undef, undef, undef, undef, undef, undef, undef, undef, undef, undef, undef, undef, undef, undef, undef, undef, undef, undef, undef, undef, undef, undef, undef, undef, undef, undef, undef, undef, undef, undef, undef, undef, undef, undef, undef, undef, undef, undef, undef, undef, undef, undef, undef, undef, undef], []⟩ W8) := by
    intro E8 W8 co cc so sc u16 u17 u18 u19 u20 u21 u22 u23 u24 u25 u26 u27 u28 u29 u30 u31 u32 u33 b8 eE8 mW kW
    refine hK1 _ _ ?_
    clear hK1 K1 b3 p3
    have l8 : E8 < W8.heap.size := (Array.getElem?_eq_some_iff.1 eE8).1
    have H8 : Hid (∀ W, Below W8.heap.size W8 W → W.heap[E8]? = some (.cells #[.string nA, .int .i64 xA, .slice co nn cc, .slice so zz sc, .string sA] 33 (0, 0)) ∧ Hub.MemAt W (.slice co nn cc) nn UA NA RA ∧ Hub.RankAt W (.slice so zz sc) zz KA QA) := fun W bz => ⟨(bz.block E8 l8).trans eE8, mW.below bz, kW.below bz⟩
    clear eE8 mW kW
    obtain ⟨cA8, cB8⟩ := SL.out W8 b8
    obtain ⟨x0, x1, x2, x3, x4⟩ := Hub.rm_cells cA8
    go_wp2_with fail
    refine (TO.out W8 b8).mono ?_
    rintro e w9 ⟨⟨v9, rfl, vx, vy, rfl, OX, OY, APX⟩, p9⟩
    obtain ⟨xo, xc, rfl⟩ := Hub.OwnL.shape OX
    obtain ⟨yo, yc, rfl⟩ := Hub.OwnL.shape OY
    have b9 := b8.trans (p9.mono b8.size)
    have z89 := p9.size
    obtain ⟨V9, hV9⟩ : ∃ V, w9.alloc (.cells #[.string nm, .int .i64 nx, .slice xo n xc, .slice yo z yc, .string sb] 33) = V := ⟨_, rfl⟩
    have d9 : Below w9.heap.size w9 V9 := by rw [← hV9]; exact (Below.refl _ w9).alloc (Nat.le_refl _) _
    have e9 : V9.heap[w9.heap.size]? = some (.cells #[.string nm, .int .i64 nx, .slice xo n xc, .slice yo z yc, .string sb] 33 (0, 0)) := by rw [← hV9]; exact World.alloc_heap_new w9 _
    have l9 : w9.heap.size < V9.heap.size := by rw [← hV9]; simp
    have BV9 := b9.trans (d9.mono b9.size)
    have zb9 := b9.size
    have C89 : Below W8.heap.size W8 V9 := p9.trans (d9.mono p9.size)
    have HX9 : Hid (∀ W, Below V9.heap.size V9 W → W.heap[w9.heap.size]? = some (.cells #[.string nm, .int .i64 nx, .slice xo n xc, .slice yo z yc, .string sb] 33 (0, 0)) ∧ W.heap[w.heap.size]? = some (.cells #[.string nm, .int .i64 nx, .slice mo n mc, .slice ko z kc, .string sb] 25 (0, 0)) ∧ W.heap[w.heap.size + 1]? = some (.cells #[.string r, .int .i64 q, .int .i64 kd, .string u, .string nk, .string t, .string i, .string fr, .int .i64 m] 27 (0, 0))) := fun W bz => ⟨(bz.block _ (by omega)).trans e9, SL.out W (BV9.trans (bz.mono BV9.size))⟩
    have HO9 : Hid (∀ W, Below V9.heap.size V9 W → Hub.OwnM W W8.heap.size (.slice xo n xc) n U N R ∧ Hub.OwnK W W8.heap.size (.slice yo z yc) z KU KR) := fun W bz => ⟨Hub.OwnL.below (Hub.OwnL.below OX d9) bz, Hub.OwnL.below (Hub.OwnL.below OY d9) bz⟩
    have XL : Hid _ := Hub.OwnL.lt OX
    have YL : Hid _ := Hub.OwnL.lt OY
    have HV9 : Hid (w9.alloc (.cells #[.string nm, .int .i64 nx, .slice xo n xc, .slice yo z yc, .string sb] 33) = V9) := hV9
    clear hV9 e9 x0 x1 x2 x3 x4 cA8 cB8 OX OY
    go_wp2_with fail
    rw [HV9.out]
    rename_i K2 hK2
    have TAIL10 : Hid (∀ (E10 : Nat) (W10 : World) (go : Option Addr) (gc : Nat) (ho : Option Addr) (hc : Nat) (u34 u35 u36 u37 u38 u39 u40 u41 u42 : Value), Below V9.heap.size V9 W10 → W10.heap[E10]? = some (.cells #[.string nA, .int .i64 xA, .slice go nn gc, .slice ho zz hc, .string sA] 33 (0, 0)) → V9.heap.size ≤ E10 → Hub.OwnM W10 V9.heap.size (.slice go nn gc) nn UA NA RA → Hub.OwnK W10 V9.heap.size (.slice ho zz hc) zz KA QA → Hub.Apart (.slice go nn gc) (.slice ho zz hc) → (Value.slice go nn gc).ownBlock ≠ some E10 → (Value.slice ho zz hc).ownBlock ≠ some E10 → K2 ⟨#[Hub.roomV nm nx (.slice mo n mc) (.slice ko z kc) sb, Hub.entV r q kd u nk t i fr m, .pointer (some ⟨w.heap.size, 0, none⟩), .pointer (some ⟨w.heap.size + 1, 0, none⟩), .bool false, .int .i64 y2, .pointer (some ⟨E8, 0, none⟩), .bool bb, .pointer (some ⟨w9.heap.size, 0, none⟩), .pointer (some ⟨E10, 0, none⟩), .bool bb, undef, undef, undef, undef, undef, u16, u17, u18, u19, u20, u21, u22, u23, u24, u25, u26, u27, u28, u29, u30, u31, u32, u33, u34, u35, u36, u37, u38, u39, u40, u41, u42, undef, undef, undef, undef, undef, undef, undef, undef, undef, undef, undef, undef, undef, undef, undef, undef, undef, undef, undef, undef, undef, undef, undef, undef, undef, undef, undef, undef, undef, undef, undef, undef, undef, undef, undef, undef, undef, undef, undef, undef, undef, undef, undef, undef, undef, undef, undef, undef, undef, undef, undef, undef, undef, undef, undef, undef, undef, undef, undef, undef, undef, undef, undef, undef, undef, undef], []⟩ W10) := by
      intro E10 W10 go gc ho hc u34 u35 u36 u37 u38 u39 u40 u41 u42 b10 eG lE OMG OKG APG neM neK
      refine hK2 _ _ ?_
      clear hK2 K2
      have l10 : E10 < W10.heap.size := (Array.getElem?_eq_some_iff.1 eG).1
      have zv := b10.size
      have ML : Hid _ := Hub.OwnL.lt OMG
      have KL : Hid _ := Hub.OwnL.lt OKG
      have HG : Hid (∀ W, Below W10.heap.size W10 W → W.heap[E10]? = some (.cells #[.string nA, .int .i64 xA, .slice go nn gc, .slice ho zz hc, .string sA] 33 (0, 0)) ∧ Hub.OwnM W V9.heap.size (.slice go nn gc) nn UA NA RA ∧ Hub.OwnK W V9.heap.size (.slice ho zz hc) zz KA QA) := fun W bz => ⟨(bz.block E10 l10).trans eG, Hub.OwnL.below OMG bz, Hub.OwnL.below OKG bz⟩
      have C810 : Below W8.heap.size W8 W10 := C89.trans (b10.mono (by omega))
      have zz8 := C89.size
      obtain ⟨w0E, w0M, w0K⟩ := H8.out W10 C810
      obtain ⟨g0, g1, g2, g3, g4⟩ := Hub.rm_cells eG
      obtain ⟨f0, f1, f2, f3, f4⟩ := Hub.rm_cells w0E
      go_wp2_with fail
      refine (Hub.eqRoom_same nA sA xA (.slice go nn gc) (.slice ho zz hc) (.slice co nn cc) (.slice so zz sc) nn UA NA RA zz KA QA W10 (Hub.OwnM.mem OMG) (Hub.OwnK.rank OKG) w0M w0K).mono ?_
      rintro e w11 ⟨rfl, p11⟩
      have B11 : Below V9.heap.size V9 w11 := b10.trans (p11.mono b10.size)
      clear g0 g1 g2 g3 g4 f0 f1 f2 f3 f4 w0E w0M w0K eG OMG OKG
      go_wp2_with fail
      refine wp_region_held_drew (S := fun W => W.heap[w9.heap.size]? = some (.cells #[.string nm, .int .i64 nx, .slice xo n xc, .slice yo z yc, .string sb] 33 (0, 0)) ∧ W.heap[w.heap.size]? = some (.cells #[.string nm, .int .i64 nx, .slice mo n mc, .slice ko z kc, .string sb] 25 (0, 0)) ∧ W.heap[w.heap.size + 1]? = some (.cells #[.string r, .int .i64 q, .int .i64 kd, .string u, .string nk, .string t, .string i, .string fr, .int .i64 m] 27 (0, 0))) (by kernel_rfl) (HX9.out w11.drew B11.drew) (fun hHeld => ?_)
      refine wpAnyH_take (i := 0) (v := ?_) rfl (by kernel_rfl) (by kernel_rfl) (by kernel_rfl) (fun _ _ _ h => h) (Or.inl ⟨by rfl, ?takeYq1⟩) (HX9.out w11.drew B11.drew) ?takeRq1
      case takeYq1 => (intro w9 hSw; (try dsimp only at hSw); obtain ⟨hX9, hA9, hB9⟩ := hSw; obtain ⟨x0, x1, x2, x3, x4⟩ := Hub.rm_cells hX9; obtain ⟨y0, y1, y2, y3, y4⟩ := Hub.rm_cells hA9; obtain ⟨n0, n1, n2, n3, n4, n5, n6, n7, n8⟩ := Hub.nine_at hB9; go_simp; try (with_reducible rfl))
      simp only [Act.put, List.setIfInBounds_toArray, List.set_cons_zero, List.set_cons_succ, List.getElem_toArray, List.getElem_cons_zero]
      refine wpAnyH_take (i := 1) (v := ?_) rfl (by kernel_rfl) (by kernel_rfl) (by kernel_rfl) (fun _ _ _ h => h) (Or.inl ⟨by rfl, ?takeYq2⟩) (HX9.out w11.drew B11.drew) ?takeRq2
      case takeYq2 => (intro w9 hSw; (try dsimp only at hSw); obtain ⟨hX9, hA9, hB9⟩ := hSw; obtain ⟨x0, x1, x2, x3, x4⟩ := Hub.rm_cells hX9; obtain ⟨y0, y1, y2, y3, y4⟩ := Hub.rm_cells hA9; obtain ⟨n0, n1, n2, n3, n4, n5, n6, n7, n8⟩ := Hub.nine_at hB9; go_simp; try (with_reducible rfl))
      simp only [Act.put, List.setIfInBounds_toArray, List.set_cons_zero, List.set_cons_succ, List.getElem_toArray, List.getElem_cons_zero, List.getElem_cons_succ]
      refine wpAnyH_ready (rs := [2]) (by kernel_rfl) (by simp) ?_
      refine AllReadyH.cons rfl (fun K hK => ?_) AllReadyH.nil
      go_simp
      refine (TO.out w11.drew (BV9.trans (B11.drew.mono BV9.size))).mono ?_
      rintro e w12 ⟨⟨v12, rfl, va, vb, rfl, oa, ob, -⟩, p12⟩
      have B12 : Below V9.heap.size V9 w12 := B11.drew.trans (p12.mono B11.drew.size)
      obtain ⟨o12, k12⟩ := HO9.out w12 B12
      have m12 := Hub.OwnM.mem oa
      have r12 := Hub.OwnK.rank ob
      obtain ⟨ao, ac, rfl⟩ := Hub.OwnL.shape oa
      obtain ⟨bo, bc, rfl⟩ := Hub.OwnL.shape ob
      clear oa ob
      go_wp2_with fail
      refine hK.out _ _ (HX9.out w12 B12) (fun _ => ?_)
      clear hK K
      try simp only [Act.put, List.setIfInBounds_toArray, List.set_cons_zero, List.set_cons_succ, List.getElem_toArray, List.getElem_cons_zero, List.getElem_cons_succ]
      refine wpAnyH_ready (rs := [3]) (by kernel_rfl) (by simp) ?_
      refine AllReadyH.cons rfl (fun K hK => ?_) AllReadyH.nil
      go_simp
      refine (Hub.eqRoom_same nm sb nx (.slice xo n xc) (.slice yo z yc) (.slice ao n ac) (.slice bo z bc) n U N R z KU KR w12 (Hub.OwnM.mem o12) (Hub.OwnK.rank k12) m12 r12).mono ?_
      rintro e w13 ⟨rfl, p13⟩
      have B13 : Below V9.heap.size V9 w13 := B12.trans (p13.mono B12.size)
      clear o12 k12 m12 r12
      go_wp2_with fail
      refine hK.out _ _ (HX9.out w13 B13) (fun _ => ?_)
      clear hK K
      try simp only [Act.put, List.setIfInBounds_toArray, List.set_cons_zero, List.set_cons_succ, List.getElem_toArray, List.getElem_cons_zero, List.getElem_cons_succ]
      refine wpAnyH_take (i := 4) (v := ?_) rfl (by kernel_rfl) (by kernel_rfl) (by kernel_rfl) (fun _ _ _ h => h) (Or.inl ⟨by rfl, ?takeYq3⟩) (HX9.out w13 B13) ?takeRq3
      case takeYq3 => (intro w9 hSw; (try dsimp only at hSw); go_simp; try (with_reducible rfl))
      simp only [Act.put, List.setIfInBounds_toArray, List.set_cons_zero, List.set_cons_succ, List.getElem_toArray, List.getElem_cons_zero, List.getElem_cons_succ]
      refine wpAnyH_done (by kernel_rfl) ?_ _
      have C1013 : Below W10.heap.size W10 w13 := p11.trans (((Below.refl _ w11).drew.trans (p12.trans (p13.mono p12.size))).mono p11.size)
      obtain ⟨x13, -, -⟩ := HX9.out w13 B13
      obtain ⟨x0, x1, x2, x3, x4⟩ := Hub.rm_cells x13
      obtain ⟨o13, k13⟩ := HO9.out w13 B13
      obtain ⟨kk, hkk⟩ : ∃ kk, 1 + 3 * n + 2 * z = kk := ⟨_, rfl⟩
      have zk : ¬ (kk : Int) < 0 := by omega
      go_wp2_with fail
      refine (Hub.markRoom_any W8.heap.size nm sb nx (.slice xo n xc) (.slice yo z yc) n U N R z KU KR w13 o13 k13 APX hmk).mono ?_
      rintro e m1 ⟨rfl, -, -, gk1⟩
      rw [hkk]
      have z13 := C1013.size
      have zm1 := gk1.2.2.2.1
      have D1 : Below W8.heap.size W8 m1 := below_two (C810.trans (C1013.mono C810.size)) gk1 (by omega) (fun q hq => (XL.out q hq).1) (fun q hq => (YL.out q hq).1)
      obtain ⟨G13, M13, K13⟩ := HG.out w13 C1013
      have GM1 : Hub.OwnM m1 V9.heap.size (.slice go nn gc) nn UA NA RA := own_heap M13 (fun q hq => gk1.2.2.2.2 q (by have := (ML.out q hq).2; omega) (fun e => by have h1 := (XL.out q e).2; have h2 := (ML.out q hq).1; omega) (fun e => by have h1 := (YL.out q e).2; have h2 := (ML.out q hq).1; omega))
      have GK1 : Hub.OwnK m1 V9.heap.size (.slice ho zz hc) zz KA QA := own_heap K13 (fun q hq => gk1.2.2.2.2 q (by have := (KL.out q hq).2; omega) (fun e => by have h1 := (XL.out q e).2; have h2 := (KL.out q hq).1; omega) (fun e => by have h1 := (YL.out q e).2; have h2 := (KL.out q hq).1; omega))
      have GE1 := (gk1.2.2.2.2 E10 (by omega) (fun e => by have := (XL.out _ e).2; omega) (fun e => by have := (YL.out _ e).2; omega)).trans G13
      clear x0 x1 x2 x3 x4 x13 o13 k13 G13 M13 K13
      obtain ⟨w0E, w0M, w0K⟩ := H8.out m1 D1
      obtain ⟨g0, g1, g2, g3, g4⟩ := Hub.rm_cells GE1
      obtain ⟨f0, f1, f2, f3, f4⟩ := Hub.rm_cells w0E
      go_wp2_with fail
      refine (Hub.eqRoom_same nA sA xA (.slice go nn gc) (.slice ho zz hc) (.slice co nn cc) (.slice so zz sc) nn UA NA RA zz KA QA m1 (Hub.OwnM.mem GM1) (Hub.OwnK.rank GK1) w0M w0K).mono ?_
      rintro e w17 ⟨rfl, p17⟩
      have z17 := p17.size
      have GM2 := Hub.OwnL.below GM1 p17
      have GK2 := Hub.OwnL.below GK1 p17
      have GE2 := (p17.block E10 (by omega)).trans GE1
      clear g0 g1 g2 g3 g4 f0 f1 f2 f3 f4 w0E w0M w0K GM1 GK1 GE1
      obtain ⟨g0, g1, g2, g3, g4⟩ := Hub.rm_cells GE2
      go_wp2_with fail
      refine (Hub.markRoom_any V9.heap.size nA sA xA (.slice go nn gc) (.slice ho zz hc) nn UA NA RA zz KA QA w17 GM2 GK2 APG hmk2).mono ?_
      rintro e m2 ⟨rfl, MM, MK, gk2⟩
      obtain ⟨mm, hmm⟩ : ∃ mm, 1 + 3 * nn + 2 * zz = mm := ⟨_, rfl⟩
      have zm : ¬ (mm : Int) < 0 := by omega
      have HE := fun W h k => Hub.heldRoom_any nA sA xA (.slice go nn gc) (.slice ho zz hc) nn zz W h k hmk2
      rw [hmm] at HE ⊢
      have zm2 := gk2.2.2.2.1
      have GE3 := (gk2.2.2.2.2 E10 (by omega) neM neK).trans GE2
      have D2 : Below W8.heap.size W8 m2 := below_two (D1.trans (p17.mono D1.size)) gk2 (by have := D1.size; omega) (fun q hq => by have := (ML.out q hq).1; omega) (fun q hq => by have := (KL.out q hq).1; omega)
      have D3 : Below W1.heap.size W1 m2 := b8.trans (D2.mono b8.size)
      have HE2 : Hid (∀ W, Below m2.heap.size m2 W → Calls Tryz.prog 12 #[Hub.roomV nA xA (.slice go nn gc) (.slice ho zz hc) sA, .int .i64 1] W fun e w9 => e = .returned (.int .i64 (mm : Int)) ∧ Below W.heap.size W w9) := fun W bz => HE W ((Hub.OwnM.mem MM).below bz) ((Hub.OwnK.rank MK).below bz)
      have HGE : Hid (∀ W, Below m2.heap.size m2 W → W.heap[E10]? = some (.cells #[.string nA, .int .i64 xA, .slice go nn gc, .slice ho zz hc, .string sA] 33 (0, 0))) := fun W bz => (bz.block E10 (by omega)).trans GE3
      clear g0 g1 g2 g3 g4 HE GM2 GK2 GE2 MM MK
      obtain ⟨g0, g1, g2, g3, g4⟩ := Hub.rm_cells GE3
      go_wp2_with fail
      refine (HE2.out m2 (Below.refl _ _)).mono ?_
      rintro e w22 ⟨rfl, p22⟩
      have D22 : Below W1.heap.size W1 w22 := D3.trans (p22.mono D3.size)
      have C22 := p22.size
      clear g0 g1 g2 g3 g4 GE3
      go_wp2_with fail
      rename_i K3 hK3
      have TAIL27 : Hid (∀ (E27 : Nat) (W27 : World) (po : Option Addr) (pc : Nat) (ro : Option Addr) (rc : Nat) (u43 u44 u45 u46 u47 u48 u49 u50 u51 u52 u53 u54 u55 u56 u57 u58 u59 u60 u61 u62 u63 u64 u65 u66 u67 u68 u69 u70 u71 u72 u73 u74 u75 u76 u77 u78 u79 u80 u81 u82 u83 u84 u85 u86 u87 u88 u89 u90 u91 : Value), Below w22.heap.size w22 W27 → W27.heap[E27]? = some (.cells #[.string nA, .int .i64 xA, .slice po nn pc, .slice ro zz rc, .string sA] 33 (0, 0)) → Hub.MemAt W27 (.slice po nn pc) nn UA NA RA → Hub.RankAt W27 (.slice ro zz rc) zz KA QA → K3 ⟨#[Hub.roomV nm nx (.slice mo n mc) (.slice ko z kc) sb, Hub.entV r q kd u nk t i fr m, .pointer (some ⟨w.heap.size, 0, none⟩), .pointer (some ⟨w.heap.size + 1, 0, none⟩), .bool false, .int .i64 y2, .pointer (some ⟨E8, 0, none⟩), .bool bb, .pointer (some ⟨w9.heap.size, 0, none⟩), .pointer (some ⟨E10, 0, none⟩), .bool bb, .int .i64 (kk : Int), .int .i64 (mm : Int), .int .i64 (mm : Int), .pointer (some ⟨E27, 0, none⟩), .bool bb, u16, u17, u18, u19, u20, u21, u22, u23, u24, u25, u26, u27, u28, u29, u30, u31, u32, u33, u34, u35, u36, u37, u38, u39, u40, u41, u42, u43, u44, u45, u46, u47, u48, u49, u50, u51, u52, u53, u54, u55, u56, u57, u58, u59, u60, u61, u62, u63, u64, u65, u66, u67, u68, u69, u70, u71, u72, u73, u74, u75, u76, u77, u78, u79, u80, u81, u82, u83, u84, u85, u86, u87, u88, u89, u90, u91, undef, undef, undef, undef, undef, undef, undef, undef, undef, undef, undef, undef, undef, undef, undef, undef, undef], []⟩ W27) := by
        intro E27 W27 po pc ro rc u43 u44 u45 u46 u47 u48 u49 u50 u51 u52 u53 u54 u55 u56 u57 u58 u59 u60 u61 u62 u63 u64 u65 u66 u67 u68 u69 u70 u71 u72 u73 u74 u75 u76 u77 u78 u79 u80 u81 u82 u83 u84 u85 u86 u87 u88 u89 u90 u91 b27 eH mH kH
        refine hK3 _ _ ?_
        clear hK3 K3
        have F27 : Below m2.heap.size m2 W27 := p22.trans (b27.mono C22)
        have G27 : Below W8.heap.size W8 W27 := D2.trans (F27.mono D2.size)
        obtain ⟨w0E, w0M, w0K⟩ := H8.out W27 G27
        obtain ⟨g0, g1, g2, g3, g4⟩ := Hub.rm_cells eH
        obtain ⟨f0, f1, f2, f3, f4⟩ := Hub.rm_cells w0E
        go_wp2_with fail
        refine (Hub.eqRoom_same nA sA xA (.slice po nn pc) (.slice ro zz rc) (.slice co nn cc) (.slice so zz sc) nn UA NA RA zz KA QA W27 mH kH w0M w0K).mono ?_
        rintro e w28 ⟨rfl, p28⟩
        have F28 : Below m2.heap.size m2 w28 := F27.trans (p28.mono F27.size)
        clear g0 g1 g2 g3 g4 f0 f1 f2 f3 f4 w0E w0M w0K
        obtain ⟨g0, g1, g2, g3, g4⟩ := Hub.rm_cells (HGE.out w28 F28)
        go_wp2_with fail
        refine (HE2.out w28 F28).mono ?_
        rintro e w29 ⟨rfl, p29⟩
        have F29 : Below m2.heap.size m2 w29 := F28.trans (p29.mono F28.size)
        go_wp2_with fail
        go_ret
        exact ⟨rfl, b1.trans ((D3.trans (F29.mono D3.size)).mono b1.size)⟩
      clear hK3
      have SL27 : Hid (∀ W, Below w22.heap.size w22 W → W.heap[w.heap.size]? = some (.cells #[.string nm, .int .i64 nx, .slice mo n mc, .slice ko z kc, .string sb] 25 (0, 0)) ∧ W.heap[w.heap.size + 1]? = some (.cells #[.string r, .int .i64 q, .int .i64 kd, .string u, .string nk, .string t, .string i, .string fr, .int .i64 m] 27 (0, 0))) := fun W bz => SL.out W (D22.trans (bz.mono D22.size))
      have zD22 := D22.size
      refine wp_region_held_drew (S := fun W => W.heap[w.heap.size]? = some (.cells #[.string nm, .int .i64 nx, .slice mo n mc, .slice ko z kc, .string sb] 25 (0, 0)) ∧ W.heap[w.heap.size + 1]? = some (.cells #[.string r, .int .i64 q, .int .i64 kd, .string u, .string nk, .string t, .string i, .string fr, .int .i64 m] 27 (0, 0))) (by kernel_rfl) (SL27.out w22.drew (Below.refl _ w22).drew) (fun hHeld => ?_)
      have BD27 : Below w22.heap.size w22 w22.drew := (Below.refl _ w22).drew
      refine wpAnyH_take (i := 0) (v := ?_) rfl (by kernel_rfl) (by kernel_rfl) (by kernel_rfl) (fun _ _ _ h => h) (Or.inl ⟨by rfl, ?takeYq4⟩) (SL27.out w22.drew BD27) ?takeRq4
      case takeYq4 => (intro w9 hSw; (try dsimp only at hSw); obtain ⟨hA9, hB9⟩ := hSw; obtain ⟨x0, x1, x2, x3, x4⟩ := Hub.rm_cells hA9; obtain ⟨n0, n1, n2, n3, n4, n5, n6, n7, n8⟩ := Hub.nine_at hB9; go_simp; try (with_reducible rfl))
      simp only [Act.put, List.setIfInBounds_toArray, List.set_cons_zero, List.set_cons_succ, List.getElem_toArray, List.getElem_cons_zero]
      refine wpAnyH_take (i := 2) (v := ?_) rfl (by kernel_rfl) (by kernel_rfl) (by kernel_rfl) (fun _ _ _ h => h) (Or.inl ⟨by rfl, ?takeYq5⟩) (SL27.out w22.drew BD27) ?takeRq5
      case takeYq5 => (intro w9 hSw; (try dsimp only at hSw); obtain ⟨hA9, hB9⟩ := hSw; obtain ⟨x0, x1, x2, x3, x4⟩ := Hub.rm_cells hA9; obtain ⟨n0, n1, n2, n3, n4, n5, n6, n7, n8⟩ := Hub.nine_at hB9; go_simp; try (with_reducible rfl))
      simp only [Act.put, List.setIfInBounds_toArray, List.set_cons_zero, List.set_cons_succ, List.getElem_toArray, List.getElem_cons_zero, List.getElem_cons_succ]
      refine wpAnyH_ready (rs := [1, 8]) (by kernel_rfl) (by simp) ?_
      refine (AllReadyH.cons rfl (fun K hK => ?_) (AllReadyH.cons rfl (fun K hK => ?_) AllReadyH.nil))
      · skip
        go_simp
        refine (TO.out w22.drew (D22.trans (BD27.mono D22.size))).mono ?_
        rintro e r1 ⟨⟨v1, rfl, va, vb, rfl, oa, ob, -⟩, p9⟩
        obtain ⟨ao, ac, rfl⟩ := Hub.OwnL.shape oa
        obtain ⟨bo, bc, rfl⟩ := Hub.OwnL.shape ob
        have mar1 := Hub.OwnM.mem oa
        have mbr1 := Hub.OwnK.rank ob
        clear oa ob
        have Br1 : Below w22.heap.size w22 r1 := BD27.trans (p9.mono BD27.size)
        have zr1 := p9.size
        have yr1 := BD27.size
        clear p9
        go_wp2_with fail
        refine hK.out _ _ (SL27.out r1 Br1) (fun _ => ?_)
        clear hK K
        try simp only [Act.put, List.setIfInBounds_toArray, List.set_cons_zero, List.set_cons_succ, List.getElem_toArray, List.getElem_cons_zero, List.getElem_cons_succ]
        refine wpAnyH_ready (rs := [3, 8]) (by kernel_rfl) (by simp) ?_
        refine (AllReadyH.cons rfl (fun K hK => ?_) (AllReadyH.cons rfl (fun K hK => ?_) AllReadyH.nil))
        · skip
          go_simp
          refine (TE.out r1).mono ?_
          rintro e r2 ⟨rfl, p9⟩
          have mar2 := mar1.below p9
          have mbr2 := mbr1.below p9
          have Br2 : Below w22.heap.size w22 r2 := Br1.trans (p9.mono Br1.size)
          have zr2 := p9.size
          have yr2 := Br1.size
          clear p9
          go_wp2_with fail
          refine hK.out _ _ (SL27.out r2 Br2) (fun _ => ?_)
          clear hK K
          try simp only [Act.put, List.setIfInBounds_toArray, List.set_cons_zero, List.set_cons_succ, List.getElem_toArray, List.getElem_cons_zero, List.getElem_cons_succ]
          refine wpAnyH_ready (rs := [4, 8]) (by kernel_rfl) (by simp) ?_
          refine (AllReadyH.cons rfl (fun K hK => ?_) (AllReadyH.cons rfl (fun K hK => ?_) AllReadyH.nil))
          · skip
            go_simp
            refine (IM.out r2 (D22.trans (Br2.mono D22.size)) _ _ mar2 mbr2).mono ?_
            rintro e r3 ⟨⟨v4, rfl, vc, vd, rfl, om, ok, ap⟩, p9⟩
            obtain ⟨po, pc, rfl⟩ := Hub.OwnL.shape om
            obtain ⟨ro, rc, rfl⟩ := Hub.OwnL.shape ok
            have Br3 : Below w22.heap.size w22 r3 := Br2.trans (p9.mono Br2.size)
            have zr3 := p9.size
            have yr3 := Br2.size
            clear p9
            go_wp2_with fail
            refine hK.out _ _ (SL27.out r3 Br3) (fun _ => ?_)
            clear hK K
            try simp only [Act.put, List.setIfInBounds_toArray, List.set_cons_zero, List.set_cons_succ, List.getElem_toArray, List.getElem_cons_zero, List.getElem_cons_succ]
            refine wpAnyH_take (i := 5) (v := ?_) rfl (by kernel_rfl) (by kernel_rfl) (by kernel_rfl) (fun _ _ _ h => h) (Or.inl ⟨by rfl, ?takeYq6⟩) (SL27.out r3 Br3) ?takeRq6
            case takeYq6 => (intro w9 hSw; (try dsimp only at hSw); go_simp; try (with_reducible rfl))
            simp only [Act.put, List.setIfInBounds_toArray, List.set_cons_zero, List.set_cons_succ, List.getElem_toArray, List.getElem_cons_zero, List.getElem_cons_succ]
            refine wpAnyH_take (i := 6) (v := ?_) rfl (by kernel_rfl) (by kernel_rfl) (by kernel_rfl) (fun _ _ _ h => h) (Or.inl ⟨by rfl, ?takeYq7⟩) (SL27.out r3 Br3) ?takeRq7
            case takeYq7 => (intro w9 hSw; (try dsimp only at hSw); go_simp; try (with_reducible rfl))
            simp only [Act.put, List.setIfInBounds_toArray, List.set_cons_zero, List.set_cons_succ, List.getElem_toArray, List.getElem_cons_zero, List.getElem_cons_succ]
            refine wpAnyH_take (i := 7) (v := ?_) rfl (by kernel_rfl) (by kernel_rfl) (by kernel_rfl) (fun _ _ _ h => h) (Or.inl ⟨by rfl, ?takeYq8⟩) (SL27.out r3 Br3) ?takeRq8
            case takeYq8 => (intro w9 hSw; (try dsimp only at hSw); go_simp; try (with_reducible rfl))
            simp only [Act.put, List.setIfInBounds_toArray, List.set_cons_zero, List.set_cons_succ, List.getElem_toArray, List.getElem_cons_zero, List.getElem_cons_succ]
            refine wpAnyH_ready (rs := [8]) (by kernel_rfl) (by simp) ?_
            refine AllReadyH.cons rfl (fun K hK => ?_) AllReadyH.nil
            go_simp
            obtain ⟨rV, hrV⟩ : ∃ V, r3.alloc (.cells #[.string ⟨#[]⟩, .int .i64 0, .slice none 0 0, .slice none 0 0, .string ⟨#[]⟩] 33) = V := ⟨_, rfl⟩
            have BrV : Below w22.heap.size w22 rV := by rw [← hrV]; exact Br3.alloc Br3.size (.cells #[.string ⟨#[]⟩, .int .i64 0, .slice none 0 0, .slice none 0 0, .string ⟨#[]⟩] 33)
            have erV : rV.heap[r3.heap.size]? = some (.cells #[.string ⟨#[]⟩, .int .i64 0, .slice none 0 0, .slice none 0 0, .string ⟨#[]⟩] 33 (0, 0)) := by rw [← hrV]; exact World.alloc_heap_new r3 _
            have lrV : r3.heap.size < rV.heap.size := by rw [← hrV]; simp
            have zrV := Br3.size
            rw [hrV]
            have ML0 := Hub.OwnL.lt om
            have KL0 := Hub.OwnL.lt ok
            replace om := (show Hub.OwnM rV _ _ _ _ _ _ by rw [← hrV]; exact Hub.OwnL.alloc om _)
            replace ok := (show Hub.OwnK rV _ _ _ _ _ by rw [← hrV]; exact Hub.OwnL.alloc ok _)
            clear hrV
            refine hK.out _ _ (SL27.out rV BrV) (fun _ => ?_)
            clear hK K
            try simp only [Act.put, List.setIfInBounds_toArray, List.set_cons_zero, List.set_cons_succ, List.getElem_toArray, List.getElem_cons_zero, List.getElem_cons_succ]
            refine wpAnyH_ready (rs := [9]) (by kernel_rfl) (by simp) ?_
            refine AllReadyH.cons rfl (fun K hK => ?_) AllReadyH.nil
            obtain ⟨x0, x1, x2, x3, x4⟩ := Hub.rm_cells erV
            have fz9 : ∀ j, rV.frozen? ⟨r3.heap.size, j, none⟩ = false := fun j => by simp [World.frozen?, erV]
            go_simp
            obtain ⟨rW, hW9⟩ : ∃ W9, Hub.roomW rV (r3.heap.size) nA xA (.slice po nn pc) (.slice ro zz rc) sA = W9 := ⟨_, rfl⟩
            have e9 : rW.heap[r3.heap.size]? = some (.cells #[.string nA, .int .i64 xA, .slice po nn pc, .slice ro zz rc, .string sA] 33 (0, 0)) := by rw [← hW9]; exact Hub.roomW_heap erV _ _ _ _ _
            have lE : w22.heap.size ≤ r3.heap.size := by omega
            have b9 : Below w22.heap.size w22 rW := by rw [← hW9]; exact Hub.roomW_below BrV lE _ _ _ _ _
            have ML := Hub.OwnL.lt om
            have KL := Hub.OwnL.lt ok
            have neM : (Value.slice po nn pc).ownBlock ≠ some (r3.heap.size) := fun e => by first | (have := ML _ e; omega) | (have := ML0 _ e; omega)
            have neK : (Value.slice ro zz rc).ownBlock ≠ some (r3.heap.size) := fun e => by first | (have := KL _ e; omega) | (have := KL0 _ e; omega)
            have o9 : Hub.OwnM rW r2.heap.size (.slice po nn pc) nn UA NA RA := by rw [← hW9]; exact Hub.OwnL.kept om Hub.roomW_grown (.inr neM)
            have k9 : Hub.OwnK rW r2.heap.size (.slice ro zz rc) zz KA QA := by rw [← hW9]; exact Hub.OwnL.kept ok Hub.roomW_grown (.inr neK)
            unfold Hub.roomW at hW9
            rw [hW9]
            refine hK.out _ _ (SL27.out rW b9) (fun _ => ?_)
            clear hK K
            try simp only [Act.put, List.setIfInBounds_toArray, List.set_cons_zero, List.set_cons_succ, List.getElem_toArray, List.getElem_cons_zero, List.getElem_cons_succ]
            refine wpAnyH_take (i := 10) (v := ?_) rfl (by kernel_rfl) (by kernel_rfl) (by kernel_rfl) (fun _ _ _ h => h) (Or.inl ⟨by rfl, ?takeYq9⟩) (SL27.out rW b9) ?takeRq9
            case takeYq9 => (intro w9 hSw; (try dsimp only at hSw); go_simp; try (with_reducible rfl))
            simp only [Act.put, List.setIfInBounds_toArray, List.set_cons_zero, List.set_cons_succ, List.getElem_toArray, List.getElem_cons_zero, List.getElem_cons_succ]
            refine wpAnyH_done (by kernel_rfl) ?_ _
            exact TAIL27.out (r3.heap.size) rW po pc ro rc _ _ _ _ _ _ _ _ _ _ _ _ _ _ _ _ _ _ _ _ _ _ _ _ _ _ _ _ _ _ _ _ _ _ _ _ _ _ _ _ _ _ _ _ _ _ _ _ _ b9 e9 (Hub.OwnM.mem o9) (Hub.OwnK.rank k9)
          · skip
            go_simp
            obtain ⟨rV, hrV⟩ : ∃ V, r2.alloc (.cells #[.string ⟨#[]⟩, .int .i64 0, .slice none 0 0, .slice none 0 0, .string ⟨#[]⟩] 33) = V := ⟨_, rfl⟩
            have BrV : Below w22.heap.size w22 rV := by rw [← hrV]; exact Br2.alloc Br2.size (.cells #[.string ⟨#[]⟩, .int .i64 0, .slice none 0 0, .slice none 0 0, .string ⟨#[]⟩] 33)
            have erV : rV.heap[r2.heap.size]? = some (.cells #[.string ⟨#[]⟩, .int .i64 0, .slice none 0 0, .slice none 0 0, .string ⟨#[]⟩] 33 (0, 0)) := by rw [← hrV]; exact World.alloc_heap_new r2 _
            have lrV : r2.heap.size < rV.heap.size := by rw [← hrV]; simp
            have zrV := Br2.size
            rw [hrV]
            have marV : Hub.MemAt rV (.slice ao n ac) n U N R := by rw [← hrV]; exact mar2.below ((Below.refl _ r2).alloc (Nat.le_refl _) _)
            have mbrV : Hub.RankAt rV (.slice bo z bc) z KU KR := by rw [← hrV]; exact mbr2.below ((Below.refl _ r2).alloc (Nat.le_refl _) _)
            clear hrV
            refine hK.out _ _ (SL27.out rV BrV) (fun _ => ?_)
            clear hK K
            try simp only [Act.put, List.setIfInBounds_toArray, List.set_cons_zero, List.set_cons_succ, List.getElem_toArray, List.getElem_cons_zero, List.getElem_cons_succ]
            refine wpAnyH_ready (rs := [4]) (by kernel_rfl) (by simp) ?_
            refine AllReadyH.cons rfl (fun K hK => ?_) AllReadyH.nil
            go_simp
            refine (IM.out rV (D22.trans (BrV.mono D22.size)) _ _ marV mbrV).mono ?_
            rintro e r3 ⟨⟨v4, rfl, vc, vd, rfl, om, ok, ap⟩, p9⟩
            obtain ⟨po, pc, rfl⟩ := Hub.OwnL.shape om
            obtain ⟨ro, rc, rfl⟩ := Hub.OwnL.shape ok
            have Br3 : Below w22.heap.size w22 r3 := BrV.trans (p9.mono BrV.size)
            have zr3 := p9.size
            have yr3 := BrV.size
            have er3 := (p9.block (r2.heap.size) (Array.getElem?_eq_some_iff.1 erV).1).trans erV
            clear p9
            go_wp2_with fail
            refine hK.out _ _ (SL27.out r3 Br3) (fun _ => ?_)
            clear hK K
            try simp only [Act.put, List.setIfInBounds_toArray, List.set_cons_zero, List.set_cons_succ, List.getElem_toArray, List.getElem_cons_zero, List.getElem_cons_succ]
            refine wpAnyH_take (i := 5) (v := ?_) rfl (by kernel_rfl) (by kernel_rfl) (by kernel_rfl) (fun _ _ _ h => h) (Or.inl ⟨by rfl, ?takeYq10⟩) (SL27.out r3 Br3) ?takeRq10
            case takeYq10 => (intro w9 hSw; (try dsimp only at hSw); go_simp; try (with_reducible rfl))
            simp only [Act.put, List.setIfInBounds_toArray, List.set_cons_zero, List.set_cons_succ, List.getElem_toArray, List.getElem_cons_zero, List.getElem_cons_succ]
            refine wpAnyH_take (i := 6) (v := ?_) rfl (by kernel_rfl) (by kernel_rfl) (by kernel_rfl) (fun _ _ _ h => h) (Or.inl ⟨by rfl, ?takeYq11⟩) (SL27.out r3 Br3) ?takeRq11
            case takeYq11 => (intro w9 hSw; (try dsimp only at hSw); go_simp; try (with_reducible rfl))
            simp only [Act.put, List.setIfInBounds_toArray, List.set_cons_zero, List.set_cons_succ, List.getElem_toArray, List.getElem_cons_zero, List.getElem_cons_succ]
            refine wpAnyH_take (i := 7) (v := ?_) rfl (by kernel_rfl) (by kernel_rfl) (by kernel_rfl) (fun _ _ _ h => h) (Or.inl ⟨by rfl, ?takeYq12⟩) (SL27.out r3 Br3) ?takeRq12
            case takeYq12 => (intro w9 hSw; (try dsimp only at hSw); go_simp; try (with_reducible rfl))
            simp only [Act.put, List.setIfInBounds_toArray, List.set_cons_zero, List.set_cons_succ, List.getElem_toArray, List.getElem_cons_zero, List.getElem_cons_succ]
            refine wpAnyH_ready (rs := [9]) (by kernel_rfl) (by simp) ?_
            refine AllReadyH.cons rfl (fun K hK => ?_) AllReadyH.nil
            obtain ⟨x0, x1, x2, x3, x4⟩ := Hub.rm_cells er3
            have fz9 : ∀ j, r3.frozen? ⟨r2.heap.size, j, none⟩ = false := fun j => by simp [World.frozen?, er3]
            go_simp
            obtain ⟨rW, hW9⟩ : ∃ W9, Hub.roomW r3 (r2.heap.size) nA xA (.slice po nn pc) (.slice ro zz rc) sA = W9 := ⟨_, rfl⟩
            have e9 : rW.heap[r2.heap.size]? = some (.cells #[.string nA, .int .i64 xA, .slice po nn pc, .slice ro zz rc, .string sA] 33 (0, 0)) := by rw [← hW9]; exact Hub.roomW_heap er3 _ _ _ _ _
            have lE : w22.heap.size ≤ r2.heap.size := by omega
            have b9 : Below w22.heap.size w22 rW := by rw [← hW9]; exact Hub.roomW_below Br3 lE _ _ _ _ _
            have ML := Hub.OwnL.lt om
            have KL := Hub.OwnL.lt ok
            have neM : (Value.slice po nn pc).ownBlock ≠ some (r2.heap.size) := fun e => by first | (have := ML _ e; omega) | (have := ML0 _ e; omega)
            have neK : (Value.slice ro zz rc).ownBlock ≠ some (r2.heap.size) := fun e => by first | (have := KL _ e; omega) | (have := KL0 _ e; omega)
            have o9 : Hub.OwnM rW rV.heap.size (.slice po nn pc) nn UA NA RA := by rw [← hW9]; exact Hub.OwnL.kept om Hub.roomW_grown (.inr neM)
            have k9 : Hub.OwnK rW rV.heap.size (.slice ro zz rc) zz KA QA := by rw [← hW9]; exact Hub.OwnL.kept ok Hub.roomW_grown (.inr neK)
            unfold Hub.roomW at hW9
            rw [hW9]
            refine hK.out _ _ (SL27.out rW b9) (fun _ => ?_)
            clear hK K
            try simp only [Act.put, List.setIfInBounds_toArray, List.set_cons_zero, List.set_cons_succ, List.getElem_toArray, List.getElem_cons_zero, List.getElem_cons_succ]
            refine wpAnyH_take (i := 10) (v := ?_) rfl (by kernel_rfl) (by kernel_rfl) (by kernel_rfl) (fun _ _ _ h => h) (Or.inl ⟨by rfl, ?takeYq13⟩) (SL27.out rW b9) ?takeRq13
            case takeYq13 => (intro w9 hSw; (try dsimp only at hSw); go_simp; try (with_reducible rfl))
            simp only [Act.put, List.setIfInBounds_toArray, List.set_cons_zero, List.set_cons_succ, List.getElem_toArray, List.getElem_cons_zero, List.getElem_cons_succ]
            refine wpAnyH_done (by kernel_rfl) ?_ _
            exact TAIL27.out (r2.heap.size) rW po pc ro rc _ _ _ _ _ _ _ _ _ _ _ _ _ _ _ _ _ _ _ _ _ _ _ _ _ _ _ _ _ _ _ _ _ _ _ _ _ _ _ _ _ _ _ _ _ _ _ _ _ b9 e9 (Hub.OwnM.mem o9) (Hub.OwnK.rank k9)
        · skip
          go_simp
          obtain ⟨rV, hrV⟩ : ∃ V, r1.alloc (.cells #[.string ⟨#[]⟩, .int .i64 0, .slice none 0 0, .slice none 0 0, .string ⟨#[]⟩] 33) = V := ⟨_, rfl⟩
          have BrV : Below w22.heap.size w22 rV := by rw [← hrV]; exact Br1.alloc Br1.size (.cells #[.string ⟨#[]⟩, .int .i64 0, .slice none 0 0, .slice none 0 0, .string ⟨#[]⟩] 33)
          have erV : rV.heap[r1.heap.size]? = some (.cells #[.string ⟨#[]⟩, .int .i64 0, .slice none 0 0, .slice none 0 0, .string ⟨#[]⟩] 33 (0, 0)) := by rw [← hrV]; exact World.alloc_heap_new r1 _
          have lrV : r1.heap.size < rV.heap.size := by rw [← hrV]; simp
          have zrV := Br1.size
          rw [hrV]
          have marV : Hub.MemAt rV (.slice ao n ac) n U N R := by rw [← hrV]; exact mar1.below ((Below.refl _ r1).alloc (Nat.le_refl _) _)
          have mbrV : Hub.RankAt rV (.slice bo z bc) z KU KR := by rw [← hrV]; exact mbr1.below ((Below.refl _ r1).alloc (Nat.le_refl _) _)
          clear hrV
          refine hK.out _ _ (SL27.out rV BrV) (fun _ => ?_)
          clear hK K
          try simp only [Act.put, List.setIfInBounds_toArray, List.set_cons_zero, List.set_cons_succ, List.getElem_toArray, List.getElem_cons_zero, List.getElem_cons_succ]
          refine wpAnyH_ready (rs := [3]) (by kernel_rfl) (by simp) ?_
          refine AllReadyH.cons rfl (fun K hK => ?_) AllReadyH.nil
          go_simp
          refine (TE.out rV).mono ?_
          rintro e r2 ⟨rfl, p9⟩
          have mar2 := marV.below p9
          have mbr2 := mbrV.below p9
          have Br2 : Below w22.heap.size w22 r2 := BrV.trans (p9.mono BrV.size)
          have zr2 := p9.size
          have yr2 := BrV.size
          have er2 := (p9.block (r1.heap.size) (Array.getElem?_eq_some_iff.1 erV).1).trans erV
          clear p9
          go_wp2_with fail
          refine hK.out _ _ (SL27.out r2 Br2) (fun _ => ?_)
          clear hK K
          try simp only [Act.put, List.setIfInBounds_toArray, List.set_cons_zero, List.set_cons_succ, List.getElem_toArray, List.getElem_cons_zero, List.getElem_cons_succ]
          refine wpAnyH_ready (rs := [4]) (by kernel_rfl) (by simp) ?_
          refine AllReadyH.cons rfl (fun K hK => ?_) AllReadyH.nil
          go_simp
          refine (IM.out r2 (D22.trans (Br2.mono D22.size)) _ _ mar2 mbr2).mono ?_
          rintro e r3 ⟨⟨v4, rfl, vc, vd, rfl, om, ok, ap⟩, p9⟩
          obtain ⟨po, pc, rfl⟩ := Hub.OwnL.shape om
          obtain ⟨ro, rc, rfl⟩ := Hub.OwnL.shape ok
          have Br3 : Below w22.heap.size w22 r3 := Br2.trans (p9.mono Br2.size)
          have zr3 := p9.size
          have yr3 := Br2.size
          have er3 := (p9.block (r1.heap.size) (Array.getElem?_eq_some_iff.1 er2).1).trans er2
          clear p9
          go_wp2_with fail
          refine hK.out _ _ (SL27.out r3 Br3) (fun _ => ?_)
          clear hK K
          try simp only [Act.put, List.setIfInBounds_toArray, List.set_cons_zero, List.set_cons_succ, List.getElem_toArray, List.getElem_cons_zero, List.getElem_cons_succ]
          refine wpAnyH_take (i := 5) (v := ?_) rfl (by kernel_rfl) (by kernel_rfl) (by kernel_rfl) (fun _ _ _ h => h) (Or.inl ⟨by rfl, ?takeYq14⟩) (SL27.out r3 Br3) ?takeRq14
          case takeYq14 => (intro w9 hSw; (try dsimp only at hSw); go_simp; try (with_reducible rfl))
          simp only [Act.put, List.setIfInBounds_toArray, List.set_cons_zero, List.set_cons_succ, List.getElem_toArray, List.getElem_cons_zero, List.getElem_cons_succ]
          refine wpAnyH_take (i := 6) (v := ?_) rfl (by kernel_rfl) (by kernel_rfl) (by kernel_rfl) (fun _ _ _ h => h) (Or.inl ⟨by rfl, ?takeYq15⟩) (SL27.out r3 Br3) ?takeRq15
          case takeYq15 => (intro w9 hSw; (try dsimp only at hSw); go_simp; try (with_reducible rfl))
          simp only [Act.put, List.setIfInBounds_toArray, List.set_cons_zero, List.set_cons_succ, List.getElem_toArray, List.getElem_cons_zero, List.getElem_cons_succ]
          refine wpAnyH_take (i := 7) (v := ?_) rfl (by kernel_rfl) (by kernel_rfl) (by kernel_rfl) (fun _ _ _ h => h) (Or.inl ⟨by rfl, ?takeYq16⟩) (SL27.out r3 Br3) ?takeRq16
          case takeYq16 => (intro w9 hSw; (try dsimp only at hSw); go_simp; try (with_reducible rfl))
          simp only [Act.put, List.setIfInBounds_toArray, List.set_cons_zero, List.set_cons_succ, List.getElem_toArray, List.getElem_cons_zero, List.getElem_cons_succ]
          refine wpAnyH_ready (rs := [9]) (by kernel_rfl) (by simp) ?_
          refine AllReadyH.cons rfl (fun K hK => ?_) AllReadyH.nil
          obtain ⟨x0, x1, x2, x3, x4⟩ := Hub.rm_cells er3
          have fz9 : ∀ j, r3.frozen? ⟨r1.heap.size, j, none⟩ = false := fun j => by simp [World.frozen?, er3]
          go_simp
          obtain ⟨rW, hW9⟩ : ∃ W9, Hub.roomW r3 (r1.heap.size) nA xA (.slice po nn pc) (.slice ro zz rc) sA = W9 := ⟨_, rfl⟩
          have e9 : rW.heap[r1.heap.size]? = some (.cells #[.string nA, .int .i64 xA, .slice po nn pc, .slice ro zz rc, .string sA] 33 (0, 0)) := by rw [← hW9]; exact Hub.roomW_heap er3 _ _ _ _ _
          have lE : w22.heap.size ≤ r1.heap.size := by omega
          have b9 : Below w22.heap.size w22 rW := by rw [← hW9]; exact Hub.roomW_below Br3 lE _ _ _ _ _
          have ML := Hub.OwnL.lt om
          have KL := Hub.OwnL.lt ok
          have neM : (Value.slice po nn pc).ownBlock ≠ some (r1.heap.size) := fun e => by first | (have := ML _ e; omega) | (have := ML0 _ e; omega)
          have neK : (Value.slice ro zz rc).ownBlock ≠ some (r1.heap.size) := fun e => by first | (have := KL _ e; omega) | (have := KL0 _ e; omega)
          have o9 : Hub.OwnM rW r2.heap.size (.slice po nn pc) nn UA NA RA := by rw [← hW9]; exact Hub.OwnL.kept om Hub.roomW_grown (.inr neM)
          have k9 : Hub.OwnK rW r2.heap.size (.slice ro zz rc) zz KA QA := by rw [← hW9]; exact Hub.OwnL.kept ok Hub.roomW_grown (.inr neK)
          unfold Hub.roomW at hW9
          rw [hW9]
          refine hK.out _ _ (SL27.out rW b9) (fun _ => ?_)
          clear hK K
          try simp only [Act.put, List.setIfInBounds_toArray, List.set_cons_zero, List.set_cons_succ, List.getElem_toArray, List.getElem_cons_zero, List.getElem_cons_succ]
          refine wpAnyH_take (i := 10) (v := ?_) rfl (by kernel_rfl) (by kernel_rfl) (by kernel_rfl) (fun _ _ _ h => h) (Or.inl ⟨by rfl, ?takeYq17⟩) (SL27.out rW b9) ?takeRq17
          case takeYq17 => (intro w9 hSw; (try dsimp only at hSw); go_simp; try (with_reducible rfl))
          simp only [Act.put, List.setIfInBounds_toArray, List.set_cons_zero, List.set_cons_succ, List.getElem_toArray, List.getElem_cons_zero, List.getElem_cons_succ]
          refine wpAnyH_done (by kernel_rfl) ?_ _
          exact TAIL27.out (r1.heap.size) rW po pc ro rc _ _ _ _ _ _ _ _ _ _ _ _ _ _ _ _ _ _ _ _ _ _ _ _ _ _ _ _ _ _ _ _ _ _ _ _ _ _ _ _ _ _ _ _ _ _ _ _ _ b9 e9 (Hub.OwnM.mem o9) (Hub.OwnK.rank k9)
      · skip
        go_simp
        obtain ⟨rV, hrV⟩ : ∃ V, (w22.alloc (.cells #[.string ⟨#[]⟩, .int .i64 0, .slice none 0 0, .slice none 0 0, .string ⟨#[]⟩] 33)).drew = V := ⟨_, rfl⟩
        have BrV : Below w22.heap.size w22 rV := by rw [← hrV]; exact BD27.alloc BD27.size (.cells #[.string ⟨#[]⟩, .int .i64 0, .slice none 0 0, .slice none 0 0, .string ⟨#[]⟩] 33)
        have erV : rV.heap[w22.heap.size]? = some (.cells #[.string ⟨#[]⟩, .int .i64 0, .slice none 0 0, .slice none 0 0, .string ⟨#[]⟩] 33 (0, 0)) := by rw [← hrV]; exact World.alloc_heap_new w22.drew _
        have lrV : w22.heap.size < rV.heap.size := by rw [← hrV]; simp
        have zrV := BD27.size
        rw [hrV]
        clear hrV
        refine hK.out _ _ (SL27.out rV BrV) (fun _ => ?_)
        clear hK K
        try simp only [Act.put, List.setIfInBounds_toArray, List.set_cons_zero, List.set_cons_succ, List.getElem_toArray, List.getElem_cons_zero, List.getElem_cons_succ]
        refine wpAnyH_ready (rs := [1]) (by kernel_rfl) (by simp) ?_
        refine AllReadyH.cons rfl (fun K hK => ?_) AllReadyH.nil
        go_simp
        refine (TO.out rV (D22.trans (BrV.mono D22.size))).mono ?_
        rintro e r1 ⟨⟨v1, rfl, va, vb, rfl, oa, ob, -⟩, p9⟩
        obtain ⟨ao, ac, rfl⟩ := Hub.OwnL.shape oa
        obtain ⟨bo, bc, rfl⟩ := Hub.OwnL.shape ob
        have mar1 := Hub.OwnM.mem oa
        have mbr1 := Hub.OwnK.rank ob
        clear oa ob
        have Br1 : Below w22.heap.size w22 r1 := BrV.trans (p9.mono BrV.size)
        have zr1 := p9.size
        have yr1 := BrV.size
        have er1 := (p9.block (w22.heap.size) (Array.getElem?_eq_some_iff.1 erV).1).trans erV
        clear p9
        go_wp2_with fail
        refine hK.out _ _ (SL27.out r1 Br1) (fun _ => ?_)
        clear hK K
        try simp only [Act.put, List.setIfInBounds_toArray, List.set_cons_zero, List.set_cons_succ, List.getElem_toArray, List.getElem_cons_zero, List.getElem_cons_succ]
        refine wpAnyH_ready (rs := [3]) (by kernel_rfl) (by simp) ?_
        refine AllReadyH.cons rfl (fun K hK => ?_) AllReadyH.nil
        go_simp
        refine (TE.out r1).mono ?_
        rintro e r2 ⟨rfl, p9⟩
        have mar2 := mar1.below p9
        have mbr2 := mbr1.below p9
        have Br2 : Below w22.heap.size w22 r2 := Br1.trans (p9.mono Br1.size)
        have zr2 := p9.size
        have yr2 := Br1.size
        have er2 := (p9.block (w22.heap.size) (Array.getElem?_eq_some_iff.1 er1).1).trans er1
        clear p9
        go_wp2_with fail
        refine hK.out _ _ (SL27.out r2 Br2) (fun _ => ?_)
        clear hK K
        try simp only [Act.put, List.setIfInBounds_toArray, List.set_cons_zero, List.set_cons_succ, List.getElem_toArray, List.getElem_cons_zero, List.getElem_cons_succ]
        refine wpAnyH_ready (rs := [4]) (by kernel_rfl) (by simp) ?_
        refine AllReadyH.cons rfl (fun K hK => ?_) AllReadyH.nil
        go_simp
        refine (IM.out r2 (D22.trans (Br2.mono D22.size)) _ _ mar2 mbr2).mono ?_
        rintro e r3 ⟨⟨v4, rfl, vc, vd, rfl, om, ok, ap⟩, p9⟩
        obtain ⟨po, pc, rfl⟩ := Hub.OwnL.shape om
        obtain ⟨ro, rc, rfl⟩ := Hub.OwnL.shape ok
        have Br3 : Below w22.heap.size w22 r3 := Br2.trans (p9.mono Br2.size)
        have zr3 := p9.size
        have yr3 := Br2.size
        have er3 := (p9.block (w22.heap.size) (Array.getElem?_eq_some_iff.1 er2).1).trans er2
        clear p9
        go_wp2_with fail
        refine hK.out _ _ (SL27.out r3 Br3) (fun _ => ?_)
        clear hK K
        try simp only [Act.put, List.setIfInBounds_toArray, List.set_cons_zero, List.set_cons_succ, List.getElem_toArray, List.getElem_cons_zero, List.getElem_cons_succ]
        refine wpAnyH_take (i := 5) (v := ?_) rfl (by kernel_rfl) (by kernel_rfl) (by kernel_rfl) (fun _ _ _ h => h) (Or.inl ⟨by rfl, ?takeYq18⟩) (SL27.out r3 Br3) ?takeRq18
        case takeYq18 => (intro w9 hSw; (try dsimp only at hSw); go_simp; try (with_reducible rfl))
        simp only [Act.put, List.setIfInBounds_toArray, List.set_cons_zero, List.set_cons_succ, List.getElem_toArray, List.getElem_cons_zero, List.getElem_cons_succ]
        refine wpAnyH_take (i := 6) (v := ?_) rfl (by kernel_rfl) (by kernel_rfl) (by kernel_rfl) (fun _ _ _ h => h) (Or.inl ⟨by rfl, ?takeYq19⟩) (SL27.out r3 Br3) ?takeRq19
        case takeYq19 => (intro w9 hSw; (try dsimp only at hSw); go_simp; try (with_reducible rfl))
        simp only [Act.put, List.setIfInBounds_toArray, List.set_cons_zero, List.set_cons_succ, List.getElem_toArray, List.getElem_cons_zero, List.getElem_cons_succ]
        refine wpAnyH_take (i := 7) (v := ?_) rfl (by kernel_rfl) (by kernel_rfl) (by kernel_rfl) (fun _ _ _ h => h) (Or.inl ⟨by rfl, ?takeYq20⟩) (SL27.out r3 Br3) ?takeRq20
        case takeYq20 => (intro w9 hSw; (try dsimp only at hSw); go_simp; try (with_reducible rfl))
        simp only [Act.put, List.setIfInBounds_toArray, List.set_cons_zero, List.set_cons_succ, List.getElem_toArray, List.getElem_cons_zero, List.getElem_cons_succ]
        refine wpAnyH_ready (rs := [9]) (by kernel_rfl) (by simp) ?_
        refine AllReadyH.cons rfl (fun K hK => ?_) AllReadyH.nil
        obtain ⟨x0, x1, x2, x3, x4⟩ := Hub.rm_cells er3
        have fz9 : ∀ j, r3.frozen? ⟨w22.heap.size, j, none⟩ = false := fun j => by simp [World.frozen?, er3]
        go_simp
        obtain ⟨rW, hW9⟩ : ∃ W9, Hub.roomW r3 (w22.heap.size) nA xA (.slice po nn pc) (.slice ro zz rc) sA = W9 := ⟨_, rfl⟩
        have e9 : rW.heap[w22.heap.size]? = some (.cells #[.string nA, .int .i64 xA, .slice po nn pc, .slice ro zz rc, .string sA] 33 (0, 0)) := by rw [← hW9]; exact Hub.roomW_heap er3 _ _ _ _ _
        have lE : w22.heap.size ≤ w22.heap.size := by omega
        have b9 : Below w22.heap.size w22 rW := by rw [← hW9]; exact Hub.roomW_below Br3 lE _ _ _ _ _
        have ML := Hub.OwnL.lt om
        have KL := Hub.OwnL.lt ok
        have neM : (Value.slice po nn pc).ownBlock ≠ some (w22.heap.size) := fun e => by first | (have := ML _ e; omega) | (have := ML0 _ e; omega)
        have neK : (Value.slice ro zz rc).ownBlock ≠ some (w22.heap.size) := fun e => by first | (have := KL _ e; omega) | (have := KL0 _ e; omega)
        have o9 : Hub.OwnM rW r2.heap.size (.slice po nn pc) nn UA NA RA := by rw [← hW9]; exact Hub.OwnL.kept om Hub.roomW_grown (.inr neM)
        have k9 : Hub.OwnK rW r2.heap.size (.slice ro zz rc) zz KA QA := by rw [← hW9]; exact Hub.OwnL.kept ok Hub.roomW_grown (.inr neK)
        unfold Hub.roomW at hW9
        rw [hW9]
        refine hK.out _ _ (SL27.out rW b9) (fun _ => ?_)
        clear hK K
        try simp only [Act.put, List.setIfInBounds_toArray, List.set_cons_zero, List.set_cons_succ, List.getElem_toArray, List.getElem_cons_zero, List.getElem_cons_succ]
        refine wpAnyH_take (i := 10) (v := ?_) rfl (by kernel_rfl) (by kernel_rfl) (by kernel_rfl) (fun _ _ _ h => h) (Or.inl ⟨by rfl, ?takeYq21⟩) (SL27.out rW b9) ?takeRq21
        case takeYq21 => (intro w9 hSw; (try dsimp only at hSw); go_simp; try (with_reducible rfl))
        simp only [Act.put, List.setIfInBounds_toArray, List.set_cons_zero, List.set_cons_succ, List.getElem_toArray, List.getElem_cons_zero, List.getElem_cons_succ]
        refine wpAnyH_done (by kernel_rfl) ?_ _
        exact TAIL27.out (w22.heap.size) rW po pc ro rc _ _ _ _ _ _ _ _ _ _ _ _ _ _ _ _ _ _ _ _ _ _ _ _ _ _ _ _ _ _ _ _ _ _ _ _ _ _ _ _ _ _ _ _ _ _ _ _ _ b9 e9 (Hub.OwnM.mem o9) (Hub.OwnK.rank k9)
    clear hK2
    refine wp_region_held_drew (S := fun W => W.heap[w9.heap.size]? = some (.cells #[.string nm, .int .i64 nx, .slice xo n xc, .slice yo z yc, .string sb] 33 (0, 0)) ∧ W.heap[w.heap.size]? = some (.cells #[.string nm, .int .i64 nx, .slice mo n mc, .slice ko z kc, .string sb] 25 (0, 0)) ∧ W.heap[w.heap.size + 1]? = some (.cells #[.string r, .int .i64 q, .int .i64 kd, .string u, .string nk, .string t, .string i, .string fr, .int .i64 m] 27 (0, 0))) (by kernel_rfl) (HX9.out V9.drew (Below.refl _ V9).drew) (fun hHeld => ?_)
    have BD10 : Below V9.heap.size V9 V9.drew := (Below.refl _ V9).drew
    refine wpAnyH_take (i := 0) (v := ?_) rfl (by kernel_rfl) (by kernel_rfl) (by kernel_rfl) (fun _ _ _ h => h) (Or.inl ⟨by rfl, ?takeYq22⟩) (HX9.out V9.drew BD10) ?takeRq22
    case takeYq22 => (intro w9 hSw; (try dsimp only at hSw); obtain ⟨hX9, hA9, hB9⟩ := hSw; obtain ⟨x0, x1, x2, x3, x4⟩ := Hub.rm_cells hX9; obtain ⟨y0, y1, y2, y3, y4⟩ := Hub.rm_cells hA9; obtain ⟨n0, n1, n2, n3, n4, n5, n6, n7, n8⟩ := Hub.nine_at hB9; go_simp; try (with_reducible rfl))
    simp only [Act.put, List.setIfInBounds_toArray, List.set_cons_zero, List.set_cons_succ, List.getElem_toArray, List.getElem_cons_zero]
    refine wpAnyH_take (i := 1) (v := ?_) rfl (by kernel_rfl) (by kernel_rfl) (by kernel_rfl) (fun _ _ _ h => h) (Or.inl ⟨by rfl, ?takeYq23⟩) (HX9.out V9.drew BD10) ?takeRq23
    case takeYq23 => (intro w9 hSw; (try dsimp only at hSw); obtain ⟨hX9, hA9, hB9⟩ := hSw; obtain ⟨x0, x1, x2, x3, x4⟩ := Hub.rm_cells hX9; obtain ⟨y0, y1, y2, y3, y4⟩ := Hub.rm_cells hA9; obtain ⟨n0, n1, n2, n3, n4, n5, n6, n7, n8⟩ := Hub.nine_at hB9; go_simp; try (with_reducible rfl))
    simp only [Act.put, List.setIfInBounds_toArray, List.set_cons_zero, List.set_cons_succ, List.getElem_toArray, List.getElem_cons_zero, List.getElem_cons_succ]
    refine wpAnyH_ready (rs := [2, 7]) (by kernel_rfl) (by simp) ?_
    refine (AllReadyH.cons rfl (fun K hK => ?_) (AllReadyH.cons rfl (fun K hK => ?_) AllReadyH.nil))
    · skip
      go_simp
      refine (TE.out V9.drew).mono ?_
      rintro e s1 ⟨rfl, p9⟩
      have Bs1 : Below V9.heap.size V9 s1 := BD10.trans (p9.mono BD10.size)
      have zs1 := p9.size
      have ys1 := BD10.size
      clear p9
      go_wp2_with fail
      refine hK.out _ _ (HX9.out s1 Bs1) (fun _ => ?_)
      clear hK K
      try simp only [Act.put, List.setIfInBounds_toArray, List.set_cons_zero, List.set_cons_succ, List.getElem_toArray, List.getElem_cons_zero, List.getElem_cons_succ]
      refine wpAnyH_ready (rs := [3, 7]) (by kernel_rfl) (by simp) ?_
      refine (AllReadyH.cons rfl (fun K hK => ?_) (AllReadyH.cons rfl (fun K hK => ?_) AllReadyH.nil))
      · skip
        go_simp
        refine (IM.out s1 (BV9.trans (Bs1.mono BV9.size)) _ _ (Hub.OwnM.mem (HO9.out s1 Bs1).1) (Hub.OwnK.rank (HO9.out s1 Bs1).2)).mono ?_
        rintro e s2 ⟨⟨v4, rfl, vc, vd, rfl, om, ok, ap⟩, p9⟩
        obtain ⟨go, gc, rfl⟩ := Hub.OwnL.shape om
        obtain ⟨ho, hc, rfl⟩ := Hub.OwnL.shape ok
        have Bs2 : Below V9.heap.size V9 s2 := Bs1.trans (p9.mono Bs1.size)
        have zs2 := p9.size
        have ys2 := Bs1.size
        clear p9
        go_wp2_with fail
        refine hK.out _ _ (HX9.out s2 Bs2) (fun _ => ?_)
        clear hK K
        try simp only [Act.put, List.setIfInBounds_toArray, List.set_cons_zero, List.set_cons_succ, List.getElem_toArray, List.getElem_cons_zero, List.getElem_cons_succ]
        refine wpAnyH_take (i := 4) (v := ?_) rfl (by kernel_rfl) (by kernel_rfl) (by kernel_rfl) (fun _ _ _ h => h) (Or.inl ⟨by rfl, ?takeYq24⟩) (HX9.out s2 Bs2) ?takeRq24
        case takeYq24 => (intro w9 hSw; (try dsimp only at hSw); go_simp; try (with_reducible rfl))
        simp only [Act.put, List.setIfInBounds_toArray, List.set_cons_zero, List.set_cons_succ, List.getElem_toArray, List.getElem_cons_zero, List.getElem_cons_succ]
        refine wpAnyH_take (i := 5) (v := ?_) rfl (by kernel_rfl) (by kernel_rfl) (by kernel_rfl) (fun _ _ _ h => h) (Or.inl ⟨by rfl, ?takeYq25⟩) (HX9.out s2 Bs2) ?takeRq25
        case takeYq25 => (intro w9 hSw; (try dsimp only at hSw); go_simp; try (with_reducible rfl))
        simp only [Act.put, List.setIfInBounds_toArray, List.set_cons_zero, List.set_cons_succ, List.getElem_toArray, List.getElem_cons_zero, List.getElem_cons_succ]
        refine wpAnyH_take (i := 6) (v := ?_) rfl (by kernel_rfl) (by kernel_rfl) (by kernel_rfl) (fun _ _ _ h => h) (Or.inl ⟨by rfl, ?takeYq26⟩) (HX9.out s2 Bs2) ?takeRq26
        case takeYq26 => (intro w9 hSw; (try dsimp only at hSw); go_simp; try (with_reducible rfl))
        simp only [Act.put, List.setIfInBounds_toArray, List.set_cons_zero, List.set_cons_succ, List.getElem_toArray, List.getElem_cons_zero, List.getElem_cons_succ]
        refine wpAnyH_ready (rs := [7]) (by kernel_rfl) (by simp) ?_
        refine AllReadyH.cons rfl (fun K hK => ?_) AllReadyH.nil
        go_simp
        obtain ⟨sV, hsV⟩ : ∃ V, s2.alloc (.cells #[.string ⟨#[]⟩, .int .i64 0, .slice none 0 0, .slice none 0 0, .string ⟨#[]⟩] 33) = V := ⟨_, rfl⟩
        have BsV : Below V9.heap.size V9 sV := by rw [← hsV]; exact Bs2.alloc Bs2.size (.cells #[.string ⟨#[]⟩, .int .i64 0, .slice none 0 0, .slice none 0 0, .string ⟨#[]⟩] 33)
        have esV : sV.heap[s2.heap.size]? = some (.cells #[.string ⟨#[]⟩, .int .i64 0, .slice none 0 0, .slice none 0 0, .string ⟨#[]⟩] 33 (0, 0)) := by rw [← hsV]; exact World.alloc_heap_new s2 _
        have lsV : s2.heap.size < sV.heap.size := by rw [← hsV]; simp
        have zsV := Bs2.size
        rw [hsV]
        have ML0 := Hub.OwnL.lt om
        have KL0 := Hub.OwnL.lt ok
        replace om := (show Hub.OwnM sV _ _ _ _ _ _ by rw [← hsV]; exact Hub.OwnL.alloc om _)
        replace ok := (show Hub.OwnK sV _ _ _ _ _ by rw [← hsV]; exact Hub.OwnL.alloc ok _)
        clear hsV
        refine hK.out _ _ (HX9.out sV BsV) (fun _ => ?_)
        clear hK K
        try simp only [Act.put, List.setIfInBounds_toArray, List.set_cons_zero, List.set_cons_succ, List.getElem_toArray, List.getElem_cons_zero, List.getElem_cons_succ]
        refine wpAnyH_ready (rs := [8]) (by kernel_rfl) (by simp) ?_
        refine AllReadyH.cons rfl (fun K hK => ?_) AllReadyH.nil
        obtain ⟨x0, x1, x2, x3, x4⟩ := Hub.rm_cells esV
        have fz9 : ∀ j, sV.frozen? ⟨s2.heap.size, j, none⟩ = false := fun j => by simp [World.frozen?, esV]
        go_simp
        obtain ⟨sW, hW9⟩ : ∃ W9, Hub.roomW sV (s2.heap.size) nA xA (.slice go nn gc) (.slice ho zz hc) sA = W9 := ⟨_, rfl⟩
        have e9 : sW.heap[s2.heap.size]? = some (.cells #[.string nA, .int .i64 xA, .slice go nn gc, .slice ho zz hc, .string sA] 33 (0, 0)) := by rw [← hW9]; exact Hub.roomW_heap esV _ _ _ _ _
        have lE : V9.heap.size ≤ s2.heap.size := by omega
        have b9 : Below V9.heap.size V9 sW := by rw [← hW9]; exact Hub.roomW_below BsV lE _ _ _ _ _
        have ML := Hub.OwnL.lt om
        have KL := Hub.OwnL.lt ok
        have neM : (Value.slice go nn gc).ownBlock ≠ some (s2.heap.size) := fun e => by first | (have := ML _ e; omega) | (have := ML0 _ e; omega)
        have neK : (Value.slice ho zz hc).ownBlock ≠ some (s2.heap.size) := fun e => by first | (have := KL _ e; omega) | (have := KL0 _ e; omega)
        have o9 : Hub.OwnM sW s1.heap.size (.slice go nn gc) nn UA NA RA := by rw [← hW9]; exact Hub.OwnL.kept om Hub.roomW_grown (.inr neM)
        have k9 : Hub.OwnK sW s1.heap.size (.slice ho zz hc) zz KA QA := by rw [← hW9]; exact Hub.OwnL.kept ok Hub.roomW_grown (.inr neK)
        unfold Hub.roomW at hW9
        rw [hW9]
        refine hK.out _ _ (HX9.out sW b9) (fun _ => ?_)
        clear hK K
        try simp only [Act.put, List.setIfInBounds_toArray, List.set_cons_zero, List.set_cons_succ, List.getElem_toArray, List.getElem_cons_zero, List.getElem_cons_succ]
        refine wpAnyH_take (i := 9) (v := ?_) rfl (by kernel_rfl) (by kernel_rfl) (by kernel_rfl) (fun _ _ _ h => h) (Or.inl ⟨by rfl, ?takeYq27⟩) (HX9.out sW b9) ?takeRq27
        case takeYq27 => (intro w9 hSw; (try dsimp only at hSw); go_simp; try (with_reducible rfl))
        simp only [Act.put, List.setIfInBounds_toArray, List.set_cons_zero, List.set_cons_succ, List.getElem_toArray, List.getElem_cons_zero, List.getElem_cons_succ]
        refine wpAnyH_done (by kernel_rfl) ?_ _
        exact TAIL10.out (s2.heap.size) sW go gc ho hc _ _ _ _ _ _ _ _ _ b9 e9 lE (Hub.OwnL.mono o9 (by omega)) (Hub.OwnL.mono k9 (by omega)) ap neM neK
      · skip
        go_simp
        obtain ⟨sV, hsV⟩ : ∃ V, s1.alloc (.cells #[.string ⟨#[]⟩, .int .i64 0, .slice none 0 0, .slice none 0 0, .string ⟨#[]⟩] 33) = V := ⟨_, rfl⟩
        have BsV : Below V9.heap.size V9 sV := by rw [← hsV]; exact Bs1.alloc Bs1.size (.cells #[.string ⟨#[]⟩, .int .i64 0, .slice none 0 0, .slice none 0 0, .string ⟨#[]⟩] 33)
        have esV : sV.heap[s1.heap.size]? = some (.cells #[.string ⟨#[]⟩, .int .i64 0, .slice none 0 0, .slice none 0 0, .string ⟨#[]⟩] 33 (0, 0)) := by rw [← hsV]; exact World.alloc_heap_new s1 _
        have lsV : s1.heap.size < sV.heap.size := by rw [← hsV]; simp
        have zsV := Bs1.size
        rw [hsV]
        clear hsV
        refine hK.out _ _ (HX9.out sV BsV) (fun _ => ?_)
        clear hK K
        try simp only [Act.put, List.setIfInBounds_toArray, List.set_cons_zero, List.set_cons_succ, List.getElem_toArray, List.getElem_cons_zero, List.getElem_cons_succ]
        refine wpAnyH_ready (rs := [3]) (by kernel_rfl) (by simp) ?_
        refine AllReadyH.cons rfl (fun K hK => ?_) AllReadyH.nil
        go_simp
        refine (IM.out sV (BV9.trans (BsV.mono BV9.size)) _ _ (Hub.OwnM.mem (HO9.out sV BsV).1) (Hub.OwnK.rank (HO9.out sV BsV).2)).mono ?_
        rintro e s2 ⟨⟨v4, rfl, vc, vd, rfl, om, ok, ap⟩, p9⟩
        obtain ⟨go, gc, rfl⟩ := Hub.OwnL.shape om
        obtain ⟨ho, hc, rfl⟩ := Hub.OwnL.shape ok
        have Bs2 : Below V9.heap.size V9 s2 := BsV.trans (p9.mono BsV.size)
        have zs2 := p9.size
        have ys2 := BsV.size
        have es2 := (p9.block (s1.heap.size) (Array.getElem?_eq_some_iff.1 esV).1).trans esV
        clear p9
        go_wp2_with fail
        refine hK.out _ _ (HX9.out s2 Bs2) (fun _ => ?_)
        clear hK K
        try simp only [Act.put, List.setIfInBounds_toArray, List.set_cons_zero, List.set_cons_succ, List.getElem_toArray, List.getElem_cons_zero, List.getElem_cons_succ]
        refine wpAnyH_take (i := 4) (v := ?_) rfl (by kernel_rfl) (by kernel_rfl) (by kernel_rfl) (fun _ _ _ h => h) (Or.inl ⟨by rfl, ?takeYq28⟩) (HX9.out s2 Bs2) ?takeRq28
        case takeYq28 => (intro w9 hSw; (try dsimp only at hSw); go_simp; try (with_reducible rfl))
        simp only [Act.put, List.setIfInBounds_toArray, List.set_cons_zero, List.set_cons_succ, List.getElem_toArray, List.getElem_cons_zero, List.getElem_cons_succ]
        refine wpAnyH_take (i := 5) (v := ?_) rfl (by kernel_rfl) (by kernel_rfl) (by kernel_rfl) (fun _ _ _ h => h) (Or.inl ⟨by rfl, ?takeYq29⟩) (HX9.out s2 Bs2) ?takeRq29
        case takeYq29 => (intro w9 hSw; (try dsimp only at hSw); go_simp; try (with_reducible rfl))
        simp only [Act.put, List.setIfInBounds_toArray, List.set_cons_zero, List.set_cons_succ, List.getElem_toArray, List.getElem_cons_zero, List.getElem_cons_succ]
        refine wpAnyH_take (i := 6) (v := ?_) rfl (by kernel_rfl) (by kernel_rfl) (by kernel_rfl) (fun _ _ _ h => h) (Or.inl ⟨by rfl, ?takeYq30⟩) (HX9.out s2 Bs2) ?takeRq30
        case takeYq30 => (intro w9 hSw; (try dsimp only at hSw); go_simp; try (with_reducible rfl))
        simp only [Act.put, List.setIfInBounds_toArray, List.set_cons_zero, List.set_cons_succ, List.getElem_toArray, List.getElem_cons_zero, List.getElem_cons_succ]
        refine wpAnyH_ready (rs := [8]) (by kernel_rfl) (by simp) ?_
        refine AllReadyH.cons rfl (fun K hK => ?_) AllReadyH.nil
        obtain ⟨x0, x1, x2, x3, x4⟩ := Hub.rm_cells es2
        have fz9 : ∀ j, s2.frozen? ⟨s1.heap.size, j, none⟩ = false := fun j => by simp [World.frozen?, es2]
        go_simp
        obtain ⟨sW, hW9⟩ : ∃ W9, Hub.roomW s2 (s1.heap.size) nA xA (.slice go nn gc) (.slice ho zz hc) sA = W9 := ⟨_, rfl⟩
        have e9 : sW.heap[s1.heap.size]? = some (.cells #[.string nA, .int .i64 xA, .slice go nn gc, .slice ho zz hc, .string sA] 33 (0, 0)) := by rw [← hW9]; exact Hub.roomW_heap es2 _ _ _ _ _
        have lE : V9.heap.size ≤ s1.heap.size := by omega
        have b9 : Below V9.heap.size V9 sW := by rw [← hW9]; exact Hub.roomW_below Bs2 lE _ _ _ _ _
        have ML := Hub.OwnL.lt om
        have KL := Hub.OwnL.lt ok
        have neM : (Value.slice go nn gc).ownBlock ≠ some (s1.heap.size) := fun e => by first | (have := ML _ e; omega) | (have := ML0 _ e; omega)
        have neK : (Value.slice ho zz hc).ownBlock ≠ some (s1.heap.size) := fun e => by first | (have := KL _ e; omega) | (have := KL0 _ e; omega)
        have o9 : Hub.OwnM sW sV.heap.size (.slice go nn gc) nn UA NA RA := by rw [← hW9]; exact Hub.OwnL.kept om Hub.roomW_grown (.inr neM)
        have k9 : Hub.OwnK sW sV.heap.size (.slice ho zz hc) zz KA QA := by rw [← hW9]; exact Hub.OwnL.kept ok Hub.roomW_grown (.inr neK)
        unfold Hub.roomW at hW9
        rw [hW9]
        refine hK.out _ _ (HX9.out sW b9) (fun _ => ?_)
        clear hK K
        try simp only [Act.put, List.setIfInBounds_toArray, List.set_cons_zero, List.set_cons_succ, List.getElem_toArray, List.getElem_cons_zero, List.getElem_cons_succ]
        refine wpAnyH_take (i := 9) (v := ?_) rfl (by kernel_rfl) (by kernel_rfl) (by kernel_rfl) (fun _ _ _ h => h) (Or.inl ⟨by rfl, ?takeYq31⟩) (HX9.out sW b9) ?takeRq31
        case takeYq31 => (intro w9 hSw; (try dsimp only at hSw); go_simp; try (with_reducible rfl))
        simp only [Act.put, List.setIfInBounds_toArray, List.set_cons_zero, List.set_cons_succ, List.getElem_toArray, List.getElem_cons_zero, List.getElem_cons_succ]
        refine wpAnyH_done (by kernel_rfl) ?_ _
        exact TAIL10.out (s1.heap.size) sW go gc ho hc _ _ _ _ _ _ _ _ _ b9 e9 lE (Hub.OwnL.mono o9 (by omega)) (Hub.OwnL.mono k9 (by omega)) ap neM neK
    · skip
      go_simp
      obtain ⟨sV, hsV⟩ : ∃ V, (V9.alloc (.cells #[.string ⟨#[]⟩, .int .i64 0, .slice none 0 0, .slice none 0 0, .string ⟨#[]⟩] 33)).drew = V := ⟨_, rfl⟩
      have BsV : Below V9.heap.size V9 sV := by rw [← hsV]; exact BD10.alloc BD10.size (.cells #[.string ⟨#[]⟩, .int .i64 0, .slice none 0 0, .slice none 0 0, .string ⟨#[]⟩] 33)
      have esV : sV.heap[V9.heap.size]? = some (.cells #[.string ⟨#[]⟩, .int .i64 0, .slice none 0 0, .slice none 0 0, .string ⟨#[]⟩] 33 (0, 0)) := by rw [← hsV]; exact World.alloc_heap_new V9.drew _
      have lsV : V9.heap.size < sV.heap.size := by rw [← hsV]; simp
      have zsV := BD10.size
      rw [hsV]
      clear hsV
      refine hK.out _ _ (HX9.out sV BsV) (fun _ => ?_)
      clear hK K
      try simp only [Act.put, List.setIfInBounds_toArray, List.set_cons_zero, List.set_cons_succ, List.getElem_toArray, List.getElem_cons_zero, List.getElem_cons_succ]
      refine wpAnyH_ready (rs := [2]) (by kernel_rfl) (by simp) ?_
      refine AllReadyH.cons rfl (fun K hK => ?_) AllReadyH.nil
      go_simp
      refine (TE.out sV).mono ?_
      rintro e s1 ⟨rfl, p9⟩
      have Bs1 : Below V9.heap.size V9 s1 := BsV.trans (p9.mono BsV.size)
      have zs1 := p9.size
      have ys1 := BsV.size
      have es1 := (p9.block (V9.heap.size) (Array.getElem?_eq_some_iff.1 esV).1).trans esV
      clear p9
      go_wp2_with fail
      refine hK.out _ _ (HX9.out s1 Bs1) (fun _ => ?_)
      clear hK K
      try simp only [Act.put, List.setIfInBounds_toArray, List.set_cons_zero, List.set_cons_succ, List.getElem_toArray, List.getElem_cons_zero, List.getElem_cons_succ]
      refine wpAnyH_ready (rs := [3]) (by kernel_rfl) (by simp) ?_
      refine AllReadyH.cons rfl (fun K hK => ?_) AllReadyH.nil
      go_simp
      refine (IM.out s1 (BV9.trans (Bs1.mono BV9.size)) _ _ (Hub.OwnM.mem (HO9.out s1 Bs1).1) (Hub.OwnK.rank (HO9.out s1 Bs1).2)).mono ?_
      rintro e s2 ⟨⟨v4, rfl, vc, vd, rfl, om, ok, ap⟩, p9⟩
      obtain ⟨go, gc, rfl⟩ := Hub.OwnL.shape om
      obtain ⟨ho, hc, rfl⟩ := Hub.OwnL.shape ok
      have Bs2 : Below V9.heap.size V9 s2 := Bs1.trans (p9.mono Bs1.size)
      have zs2 := p9.size
      have ys2 := Bs1.size
      have es2 := (p9.block (V9.heap.size) (Array.getElem?_eq_some_iff.1 es1).1).trans es1
      clear p9
      go_wp2_with fail
      refine hK.out _ _ (HX9.out s2 Bs2) (fun _ => ?_)
      clear hK K
      try simp only [Act.put, List.setIfInBounds_toArray, List.set_cons_zero, List.set_cons_succ, List.getElem_toArray, List.getElem_cons_zero, List.getElem_cons_succ]
      refine wpAnyH_take (i := 4) (v := ?_) rfl (by kernel_rfl) (by kernel_rfl) (by kernel_rfl) (fun _ _ _ h => h) (Or.inl ⟨by rfl, ?takeYq32⟩) (HX9.out s2 Bs2) ?takeRq32
      case takeYq32 => (intro w9 hSw; (try dsimp only at hSw); go_simp; try (with_reducible rfl))
      simp only [Act.put, List.setIfInBounds_toArray, List.set_cons_zero, List.set_cons_succ, List.getElem_toArray, List.getElem_cons_zero, List.getElem_cons_succ]
      refine wpAnyH_take (i := 5) (v := ?_) rfl (by kernel_rfl) (by kernel_rfl) (by kernel_rfl) (fun _ _ _ h => h) (Or.inl ⟨by rfl, ?takeYq33⟩) (HX9.out s2 Bs2) ?takeRq33
      case takeYq33 => (intro w9 hSw; (try dsimp only at hSw); go_simp; try (with_reducible rfl))
      simp only [Act.put, List.setIfInBounds_toArray, List.set_cons_zero, List.set_cons_succ, List.getElem_toArray, List.getElem_cons_zero, List.getElem_cons_succ]
      refine wpAnyH_take (i := 6) (v := ?_) rfl (by kernel_rfl) (by kernel_rfl) (by kernel_rfl) (fun _ _ _ h => h) (Or.inl ⟨by rfl, ?takeYq34⟩) (HX9.out s2 Bs2) ?takeRq34
      case takeYq34 => (intro w9 hSw; (try dsimp only at hSw); go_simp; try (with_reducible rfl))
      simp only [Act.put, List.setIfInBounds_toArray, List.set_cons_zero, List.set_cons_succ, List.getElem_toArray, List.getElem_cons_zero, List.getElem_cons_succ]
      refine wpAnyH_ready (rs := [8]) (by kernel_rfl) (by simp) ?_
      refine AllReadyH.cons rfl (fun K hK => ?_) AllReadyH.nil
      obtain ⟨x0, x1, x2, x3, x4⟩ := Hub.rm_cells es2
      have fz9 : ∀ j, s2.frozen? ⟨V9.heap.size, j, none⟩ = false := fun j => by simp [World.frozen?, es2]
      go_simp
      obtain ⟨sW, hW9⟩ : ∃ W9, Hub.roomW s2 (V9.heap.size) nA xA (.slice go nn gc) (.slice ho zz hc) sA = W9 := ⟨_, rfl⟩
      have e9 : sW.heap[V9.heap.size]? = some (.cells #[.string nA, .int .i64 xA, .slice go nn gc, .slice ho zz hc, .string sA] 33 (0, 0)) := by rw [← hW9]; exact Hub.roomW_heap es2 _ _ _ _ _
      have lE : V9.heap.size ≤ V9.heap.size := by omega
      have b9 : Below V9.heap.size V9 sW := by rw [← hW9]; exact Hub.roomW_below Bs2 lE _ _ _ _ _
      have ML := Hub.OwnL.lt om
      have KL := Hub.OwnL.lt ok
      have neM : (Value.slice go nn gc).ownBlock ≠ some (V9.heap.size) := fun e => by first | (have := ML _ e; omega) | (have := ML0 _ e; omega)
      have neK : (Value.slice ho zz hc).ownBlock ≠ some (V9.heap.size) := fun e => by first | (have := KL _ e; omega) | (have := KL0 _ e; omega)
      have o9 : Hub.OwnM sW s1.heap.size (.slice go nn gc) nn UA NA RA := by rw [← hW9]; exact Hub.OwnL.kept om Hub.roomW_grown (.inr neM)
      have k9 : Hub.OwnK sW s1.heap.size (.slice ho zz hc) zz KA QA := by rw [← hW9]; exact Hub.OwnL.kept ok Hub.roomW_grown (.inr neK)
      unfold Hub.roomW at hW9
      rw [hW9]
      refine hK.out _ _ (HX9.out sW b9) (fun _ => ?_)
      clear hK K
      try simp only [Act.put, List.setIfInBounds_toArray, List.set_cons_zero, List.set_cons_succ, List.getElem_toArray, List.getElem_cons_zero, List.getElem_cons_succ]
      refine wpAnyH_take (i := 9) (v := ?_) rfl (by kernel_rfl) (by kernel_rfl) (by kernel_rfl) (fun _ _ _ h => h) (Or.inl ⟨by rfl, ?takeYq35⟩) (HX9.out sW b9) ?takeRq35
      case takeYq35 => (intro w9 hSw; (try dsimp only at hSw); go_simp; try (with_reducible rfl))
      simp only [Act.put, List.setIfInBounds_toArray, List.set_cons_zero, List.set_cons_succ, List.getElem_toArray, List.getElem_cons_zero, List.getElem_cons_succ]
      refine wpAnyH_done (by kernel_rfl) ?_ _
      exact TAIL10.out (V9.heap.size) sW go gc ho hc _ _ _ _ _ _ _ _ _ b9 e9 lE (Hub.OwnL.mono o9 (by omega)) (Hub.OwnL.mono k9 (by omega)) ap neM neK
  clear hK1
  have zw3 := b3.size
  have SL3 : Hid (∀ W, Below w3.heap.size w3 W → Below W1.heap.size W1 W) := fun W bz => b3.trans (bz.mono b3.size)
  have BD8 : Below W1.heap.size W1 w3.drew := b3.drew
  refine wp_region_held_drew (S := fun W => W.heap[w.heap.size]? = some (.cells #[.string nm, .int .i64 nx, .slice mo n mc, .slice ko z kc, .string sb] 25 (0, 0)) ∧ W.heap[w.heap.size + 1]? = some (.cells #[.string r, .int .i64 q, .int .i64 kd, .string u, .string nk, .string t, .string i, .string fr, .int .i64 m] 27 (0, 0))) (by kernel_rfl) (SL.out w3.drew BD8) (fun hHeld => ?_)
  refine wpAnyH_take (i := 0) (v := ?_) rfl (by kernel_rfl) (by kernel_rfl) (by kernel_rfl) (fun _ _ _ h => h) (Or.inl ⟨by rfl, ?takeYq36⟩) (SL.out w3.drew BD8) ?takeRq36
  case takeYq36 => (intro w9 hSw; (try dsimp only at hSw); obtain ⟨hA9, hB9⟩ := hSw; obtain ⟨x0, x1, x2, x3, x4⟩ := Hub.rm_cells hA9; obtain ⟨n0, n1, n2, n3, n4, n5, n6, n7, n8⟩ := Hub.nine_at hB9; go_simp; try (with_reducible rfl))
  simp only [Act.put, List.setIfInBounds_toArray, List.set_cons_zero, List.set_cons_succ, List.getElem_toArray, List.getElem_cons_zero]
  refine wpAnyH_take (i := 2) (v := ?_) rfl (by kernel_rfl) (by kernel_rfl) (by kernel_rfl) (fun _ _ _ h => h) (Or.inl ⟨by rfl, ?takeYq37⟩) (SL.out w3.drew BD8) ?takeRq37
  case takeYq37 => (intro w9 hSw; (try dsimp only at hSw); obtain ⟨hA9, hB9⟩ := hSw; obtain ⟨x0, x1, x2, x3, x4⟩ := Hub.rm_cells hA9; obtain ⟨n0, n1, n2, n3, n4, n5, n6, n7, n8⟩ := Hub.nine_at hB9; go_simp; try (with_reducible rfl))
  simp only [Act.put, List.setIfInBounds_toArray, List.set_cons_zero, List.set_cons_succ, List.getElem_toArray, List.getElem_cons_zero, List.getElem_cons_succ]
  refine wpAnyH_ready (rs := [1, 8]) (by kernel_rfl) (by simp) ?_
  refine (AllReadyH.cons rfl (fun K hK => ?_) (AllReadyH.cons rfl (fun K hK => ?_) AllReadyH.nil))
  · skip
    go_simp
    refine (TO.out w3.drew (BD8)).mono ?_
    rintro e t1 ⟨⟨v1, rfl, va, vb, rfl, oa, ob, -⟩, p9⟩
    obtain ⟨ao, ac, rfl⟩ := Hub.OwnL.shape oa
    obtain ⟨bo, bc, rfl⟩ := Hub.OwnL.shape ob
    have mat1 := Hub.OwnM.mem oa
    have mbt1 := Hub.OwnK.rank ob
    clear oa ob
    have Bt1 : Below W1.heap.size W1 t1 := BD8.trans (p9.mono BD8.size)
    have zt1 := p9.size
    have yt1 := BD8.size
    clear p9
    go_wp2_with fail
    refine hK.out _ _ (SL.out t1 Bt1) (fun _ => ?_)
    clear hK K
    try simp only [Act.put, List.setIfInBounds_toArray, List.set_cons_zero, List.set_cons_succ, List.getElem_toArray, List.getElem_cons_zero, List.getElem_cons_succ]
    refine wpAnyH_ready (rs := [3, 8]) (by kernel_rfl) (by simp) ?_
    refine (AllReadyH.cons rfl (fun K hK => ?_) (AllReadyH.cons rfl (fun K hK => ?_) AllReadyH.nil))
    · skip
      go_simp
      refine (TE.out t1).mono ?_
      rintro e t2 ⟨rfl, p9⟩
      have mat2 := mat1.below p9
      have mbt2 := mbt1.below p9
      have Bt2 : Below W1.heap.size W1 t2 := Bt1.trans (p9.mono Bt1.size)
      have zt2 := p9.size
      have yt2 := Bt1.size
      clear p9
      go_wp2_with fail
      refine hK.out _ _ (SL.out t2 Bt2) (fun _ => ?_)
      clear hK K
      try simp only [Act.put, List.setIfInBounds_toArray, List.set_cons_zero, List.set_cons_succ, List.getElem_toArray, List.getElem_cons_zero, List.getElem_cons_succ]
      refine wpAnyH_ready (rs := [4, 8]) (by kernel_rfl) (by simp) ?_
      refine (AllReadyH.cons rfl (fun K hK => ?_) (AllReadyH.cons rfl (fun K hK => ?_) AllReadyH.nil))
      · skip
        go_simp
        refine (SP.out t2 _ _ mat2 mbt2).mono ?_
        rintro e t3 ⟨⟨v4, rfl, vc, vd, rfl, om, ok, ap⟩, p9⟩
        obtain ⟨co, cc, rfl⟩ := Hub.OwnL.shape om
        obtain ⟨so, sc, rfl⟩ := Hub.OwnL.shape ok
        have Bt3 : Below W1.heap.size W1 t3 := Bt2.trans (p9.mono Bt2.size)
        have zt3 := p9.size
        have yt3 := Bt2.size
        clear p9
        go_wp2_with fail
        refine hK.out _ _ (SL.out t3 Bt3) (fun _ => ?_)
        clear hK K
        try simp only [Act.put, List.setIfInBounds_toArray, List.set_cons_zero, List.set_cons_succ, List.getElem_toArray, List.getElem_cons_zero, List.getElem_cons_succ]
        refine wpAnyH_take (i := 5) (v := ?_) rfl (by kernel_rfl) (by kernel_rfl) (by kernel_rfl) (fun _ _ _ h => h) (Or.inl ⟨by rfl, ?takeYq38⟩) (SL.out t3 Bt3) ?takeRq38
        case takeYq38 => (intro w9 hSw; (try dsimp only at hSw); go_simp; try (with_reducible rfl))
        simp only [Act.put, List.setIfInBounds_toArray, List.set_cons_zero, List.set_cons_succ, List.getElem_toArray, List.getElem_cons_zero, List.getElem_cons_succ]
        refine wpAnyH_take (i := 6) (v := ?_) rfl (by kernel_rfl) (by kernel_rfl) (by kernel_rfl) (fun _ _ _ h => h) (Or.inl ⟨by rfl, ?takeYq39⟩) (SL.out t3 Bt3) ?takeRq39
        case takeYq39 => (intro w9 hSw; (try dsimp only at hSw); go_simp; try (with_reducible rfl))
        simp only [Act.put, List.setIfInBounds_toArray, List.set_cons_zero, List.set_cons_succ, List.getElem_toArray, List.getElem_cons_zero, List.getElem_cons_succ]
        refine wpAnyH_take (i := 7) (v := ?_) rfl (by kernel_rfl) (by kernel_rfl) (by kernel_rfl) (fun _ _ _ h => h) (Or.inl ⟨by rfl, ?takeYq40⟩) (SL.out t3 Bt3) ?takeRq40
        case takeYq40 => (intro w9 hSw; (try dsimp only at hSw); go_simp; try (with_reducible rfl))
        simp only [Act.put, List.setIfInBounds_toArray, List.set_cons_zero, List.set_cons_succ, List.getElem_toArray, List.getElem_cons_zero, List.getElem_cons_succ]
        refine wpAnyH_ready (rs := [8]) (by kernel_rfl) (by simp) ?_
        refine AllReadyH.cons rfl (fun K hK => ?_) AllReadyH.nil
        go_simp
        obtain ⟨tV, htV⟩ : ∃ V, t3.alloc (.cells #[.string ⟨#[]⟩, .int .i64 0, .slice none 0 0, .slice none 0 0, .string ⟨#[]⟩] 33) = V := ⟨_, rfl⟩
        have BtV : Below W1.heap.size W1 tV := by rw [← htV]; exact Bt3.alloc Bt3.size (.cells #[.string ⟨#[]⟩, .int .i64 0, .slice none 0 0, .slice none 0 0, .string ⟨#[]⟩] 33)
        have etV : tV.heap[t3.heap.size]? = some (.cells #[.string ⟨#[]⟩, .int .i64 0, .slice none 0 0, .slice none 0 0, .string ⟨#[]⟩] 33 (0, 0)) := by rw [← htV]; exact World.alloc_heap_new t3 _
        have ltV : t3.heap.size < tV.heap.size := by rw [← htV]; simp
        have ztV := Bt3.size
        rw [htV]
        have ML0 := Hub.OwnL.lt om
        have KL0 := Hub.OwnL.lt ok
        replace om := (show Hub.OwnM tV _ _ _ _ _ _ by rw [← htV]; exact Hub.OwnL.alloc om _)
        replace ok := (show Hub.OwnK tV _ _ _ _ _ by rw [← htV]; exact Hub.OwnL.alloc ok _)
        clear htV
        refine hK.out _ _ (SL.out tV BtV) (fun _ => ?_)
        clear hK K
        try simp only [Act.put, List.setIfInBounds_toArray, List.set_cons_zero, List.set_cons_succ, List.getElem_toArray, List.getElem_cons_zero, List.getElem_cons_succ]
        refine wpAnyH_ready (rs := [9]) (by kernel_rfl) (by simp) ?_
        refine AllReadyH.cons rfl (fun K hK => ?_) AllReadyH.nil
        obtain ⟨x0, x1, x2, x3, x4⟩ := Hub.rm_cells etV
        have fz9 : ∀ j, tV.frozen? ⟨t3.heap.size, j, none⟩ = false := fun j => by simp [World.frozen?, etV]
        go_simp
        obtain ⟨tW, hW9⟩ : ∃ W9, Hub.roomW tV (t3.heap.size) nA xA (.slice co nn cc) (.slice so zz sc) sA = W9 := ⟨_, rfl⟩
        have e9 : tW.heap[t3.heap.size]? = some (.cells #[.string nA, .int .i64 xA, .slice co nn cc, .slice so zz sc, .string sA] 33 (0, 0)) := by rw [← hW9]; exact Hub.roomW_heap etV _ _ _ _ _
        have lE : W1.heap.size ≤ t3.heap.size := by omega
        have b9 : Below W1.heap.size W1 tW := by rw [← hW9]; exact Hub.roomW_below BtV lE _ _ _ _ _
        have ML := Hub.OwnL.lt om
        have KL := Hub.OwnL.lt ok
        have neM : (Value.slice co nn cc).ownBlock ≠ some (t3.heap.size) := fun e => by first | (have := ML _ e; omega) | (have := ML0 _ e; omega)
        have neK : (Value.slice so zz sc).ownBlock ≠ some (t3.heap.size) := fun e => by first | (have := KL _ e; omega) | (have := KL0 _ e; omega)
        have o9 : Hub.OwnM tW t2.heap.size (.slice co nn cc) nn UA NA RA := by rw [← hW9]; exact Hub.OwnL.kept om Hub.roomW_grown (.inr neM)
        have k9 : Hub.OwnK tW t2.heap.size (.slice so zz sc) zz KA QA := by rw [← hW9]; exact Hub.OwnL.kept ok Hub.roomW_grown (.inr neK)
        unfold Hub.roomW at hW9
        rw [hW9]
        refine hK.out _ _ (SL.out tW b9) (fun _ => ?_)
        clear hK K
        try simp only [Act.put, List.setIfInBounds_toArray, List.set_cons_zero, List.set_cons_succ, List.getElem_toArray, List.getElem_cons_zero, List.getElem_cons_succ]
        refine wpAnyH_take (i := 10) (v := ?_) rfl (by kernel_rfl) (by kernel_rfl) (by kernel_rfl) (fun _ _ _ h => h) (Or.inl ⟨by rfl, ?takeYq41⟩) (SL.out tW b9) ?takeRq41
        case takeYq41 => (intro w9 hSw; (try dsimp only at hSw); go_simp; try (with_reducible rfl))
        simp only [Act.put, List.setIfInBounds_toArray, List.set_cons_zero, List.set_cons_succ, List.getElem_toArray, List.getElem_cons_zero, List.getElem_cons_succ]
        refine wpAnyH_done (by kernel_rfl) ?_ _
        exact TAIL8.out (t3.heap.size) tW co cc so sc _ _ _ _ _ _ _ _ _ _ _ _ _ _ _ _ _ _ b9 e9 (Hub.OwnM.mem o9) (Hub.OwnK.rank k9)
      · skip
        go_simp
        obtain ⟨tV, htV⟩ : ∃ V, t2.alloc (.cells #[.string ⟨#[]⟩, .int .i64 0, .slice none 0 0, .slice none 0 0, .string ⟨#[]⟩] 33) = V := ⟨_, rfl⟩
        have BtV : Below W1.heap.size W1 tV := by rw [← htV]; exact Bt2.alloc Bt2.size (.cells #[.string ⟨#[]⟩, .int .i64 0, .slice none 0 0, .slice none 0 0, .string ⟨#[]⟩] 33)
        have etV : tV.heap[t2.heap.size]? = some (.cells #[.string ⟨#[]⟩, .int .i64 0, .slice none 0 0, .slice none 0 0, .string ⟨#[]⟩] 33 (0, 0)) := by rw [← htV]; exact World.alloc_heap_new t2 _
        have ltV : t2.heap.size < tV.heap.size := by rw [← htV]; simp
        have ztV := Bt2.size
        rw [htV]
        have matV : Hub.MemAt tV (.slice ao n ac) n U N R := by rw [← htV]; exact mat2.below ((Below.refl _ t2).alloc (Nat.le_refl _) _)
        have mbtV : Hub.RankAt tV (.slice bo z bc) z KU KR := by rw [← htV]; exact mbt2.below ((Below.refl _ t2).alloc (Nat.le_refl _) _)
        clear htV
        refine hK.out _ _ (SL.out tV BtV) (fun _ => ?_)
        clear hK K
        try simp only [Act.put, List.setIfInBounds_toArray, List.set_cons_zero, List.set_cons_succ, List.getElem_toArray, List.getElem_cons_zero, List.getElem_cons_succ]
        refine wpAnyH_ready (rs := [4]) (by kernel_rfl) (by simp) ?_
        refine AllReadyH.cons rfl (fun K hK => ?_) AllReadyH.nil
        go_simp
        refine (SP.out tV _ _ matV mbtV).mono ?_
        rintro e t3 ⟨⟨v4, rfl, vc, vd, rfl, om, ok, ap⟩, p9⟩
        obtain ⟨co, cc, rfl⟩ := Hub.OwnL.shape om
        obtain ⟨so, sc, rfl⟩ := Hub.OwnL.shape ok
        have Bt3 : Below W1.heap.size W1 t3 := BtV.trans (p9.mono BtV.size)
        have zt3 := p9.size
        have yt3 := BtV.size
        have et3 := (p9.block (t2.heap.size) (Array.getElem?_eq_some_iff.1 etV).1).trans etV
        clear p9
        go_wp2_with fail
        refine hK.out _ _ (SL.out t3 Bt3) (fun _ => ?_)
        clear hK K
        try simp only [Act.put, List.setIfInBounds_toArray, List.set_cons_zero, List.set_cons_succ, List.getElem_toArray, List.getElem_cons_zero, List.getElem_cons_succ]
        refine wpAnyH_take (i := 5) (v := ?_) rfl (by kernel_rfl) (by kernel_rfl) (by kernel_rfl) (fun _ _ _ h => h) (Or.inl ⟨by rfl, ?takeYq42⟩) (SL.out t3 Bt3) ?takeRq42
        case takeYq42 => (intro w9 hSw; (try dsimp only at hSw); go_simp; try (with_reducible rfl))
        simp only [Act.put, List.setIfInBounds_toArray, List.set_cons_zero, List.set_cons_succ, List.getElem_toArray, List.getElem_cons_zero, List.getElem_cons_succ]
        refine wpAnyH_take (i := 6) (v := ?_) rfl (by kernel_rfl) (by kernel_rfl) (by kernel_rfl) (fun _ _ _ h => h) (Or.inl ⟨by rfl, ?takeYq43⟩) (SL.out t3 Bt3) ?takeRq43
        case takeYq43 => (intro w9 hSw; (try dsimp only at hSw); go_simp; try (with_reducible rfl))
        simp only [Act.put, List.setIfInBounds_toArray, List.set_cons_zero, List.set_cons_succ, List.getElem_toArray, List.getElem_cons_zero, List.getElem_cons_succ]
        refine wpAnyH_take (i := 7) (v := ?_) rfl (by kernel_rfl) (by kernel_rfl) (by kernel_rfl) (fun _ _ _ h => h) (Or.inl ⟨by rfl, ?takeYq44⟩) (SL.out t3 Bt3) ?takeRq44
        case takeYq44 => (intro w9 hSw; (try dsimp only at hSw); go_simp; try (with_reducible rfl))
        simp only [Act.put, List.setIfInBounds_toArray, List.set_cons_zero, List.set_cons_succ, List.getElem_toArray, List.getElem_cons_zero, List.getElem_cons_succ]
        refine wpAnyH_ready (rs := [9]) (by kernel_rfl) (by simp) ?_
        refine AllReadyH.cons rfl (fun K hK => ?_) AllReadyH.nil
        obtain ⟨x0, x1, x2, x3, x4⟩ := Hub.rm_cells et3
        have fz9 : ∀ j, t3.frozen? ⟨t2.heap.size, j, none⟩ = false := fun j => by simp [World.frozen?, et3]
        go_simp
        obtain ⟨tW, hW9⟩ : ∃ W9, Hub.roomW t3 (t2.heap.size) nA xA (.slice co nn cc) (.slice so zz sc) sA = W9 := ⟨_, rfl⟩
        have e9 : tW.heap[t2.heap.size]? = some (.cells #[.string nA, .int .i64 xA, .slice co nn cc, .slice so zz sc, .string sA] 33 (0, 0)) := by rw [← hW9]; exact Hub.roomW_heap et3 _ _ _ _ _
        have lE : W1.heap.size ≤ t2.heap.size := by omega
        have b9 : Below W1.heap.size W1 tW := by rw [← hW9]; exact Hub.roomW_below Bt3 lE _ _ _ _ _
        have ML := Hub.OwnL.lt om
        have KL := Hub.OwnL.lt ok
        have neM : (Value.slice co nn cc).ownBlock ≠ some (t2.heap.size) := fun e => by first | (have := ML _ e; omega) | (have := ML0 _ e; omega)
        have neK : (Value.slice so zz sc).ownBlock ≠ some (t2.heap.size) := fun e => by first | (have := KL _ e; omega) | (have := KL0 _ e; omega)
        have o9 : Hub.OwnM tW tV.heap.size (.slice co nn cc) nn UA NA RA := by rw [← hW9]; exact Hub.OwnL.kept om Hub.roomW_grown (.inr neM)
        have k9 : Hub.OwnK tW tV.heap.size (.slice so zz sc) zz KA QA := by rw [← hW9]; exact Hub.OwnL.kept ok Hub.roomW_grown (.inr neK)
        unfold Hub.roomW at hW9
        rw [hW9]
        refine hK.out _ _ (SL.out tW b9) (fun _ => ?_)
        clear hK K
        try simp only [Act.put, List.setIfInBounds_toArray, List.set_cons_zero, List.set_cons_succ, List.getElem_toArray, List.getElem_cons_zero, List.getElem_cons_succ]
        refine wpAnyH_take (i := 10) (v := ?_) rfl (by kernel_rfl) (by kernel_rfl) (by kernel_rfl) (fun _ _ _ h => h) (Or.inl ⟨by rfl, ?takeYq45⟩) (SL.out tW b9) ?takeRq45
        case takeYq45 => (intro w9 hSw; (try dsimp only at hSw); go_simp; try (with_reducible rfl))
        simp only [Act.put, List.setIfInBounds_toArray, List.set_cons_zero, List.set_cons_succ, List.getElem_toArray, List.getElem_cons_zero, List.getElem_cons_succ]
        refine wpAnyH_done (by kernel_rfl) ?_ _
        exact TAIL8.out (t2.heap.size) tW co cc so sc _ _ _ _ _ _ _ _ _ _ _ _ _ _ _ _ _ _ b9 e9 (Hub.OwnM.mem o9) (Hub.OwnK.rank k9)
    · skip
      go_simp
      obtain ⟨tV, htV⟩ : ∃ V, t1.alloc (.cells #[.string ⟨#[]⟩, .int .i64 0, .slice none 0 0, .slice none 0 0, .string ⟨#[]⟩] 33) = V := ⟨_, rfl⟩
      have BtV : Below W1.heap.size W1 tV := by rw [← htV]; exact Bt1.alloc Bt1.size (.cells #[.string ⟨#[]⟩, .int .i64 0, .slice none 0 0, .slice none 0 0, .string ⟨#[]⟩] 33)
      have etV : tV.heap[t1.heap.size]? = some (.cells #[.string ⟨#[]⟩, .int .i64 0, .slice none 0 0, .slice none 0 0, .string ⟨#[]⟩] 33 (0, 0)) := by rw [← htV]; exact World.alloc_heap_new t1 _
      have ltV : t1.heap.size < tV.heap.size := by rw [← htV]; simp
      have ztV := Bt1.size
      rw [htV]
      have matV : Hub.MemAt tV (.slice ao n ac) n U N R := by rw [← htV]; exact mat1.below ((Below.refl _ t1).alloc (Nat.le_refl _) _)
      have mbtV : Hub.RankAt tV (.slice bo z bc) z KU KR := by rw [← htV]; exact mbt1.below ((Below.refl _ t1).alloc (Nat.le_refl _) _)
      clear htV
      refine hK.out _ _ (SL.out tV BtV) (fun _ => ?_)
      clear hK K
      try simp only [Act.put, List.setIfInBounds_toArray, List.set_cons_zero, List.set_cons_succ, List.getElem_toArray, List.getElem_cons_zero, List.getElem_cons_succ]
      refine wpAnyH_ready (rs := [3]) (by kernel_rfl) (by simp) ?_
      refine AllReadyH.cons rfl (fun K hK => ?_) AllReadyH.nil
      go_simp
      refine (TE.out tV).mono ?_
      rintro e t2 ⟨rfl, p9⟩
      have mat2 := matV.below p9
      have mbt2 := mbtV.below p9
      have Bt2 : Below W1.heap.size W1 t2 := BtV.trans (p9.mono BtV.size)
      have zt2 := p9.size
      have yt2 := BtV.size
      have et2 := (p9.block (t1.heap.size) (Array.getElem?_eq_some_iff.1 etV).1).trans etV
      clear p9
      go_wp2_with fail
      refine hK.out _ _ (SL.out t2 Bt2) (fun _ => ?_)
      clear hK K
      try simp only [Act.put, List.setIfInBounds_toArray, List.set_cons_zero, List.set_cons_succ, List.getElem_toArray, List.getElem_cons_zero, List.getElem_cons_succ]
      refine wpAnyH_ready (rs := [4]) (by kernel_rfl) (by simp) ?_
      refine AllReadyH.cons rfl (fun K hK => ?_) AllReadyH.nil
      go_simp
      refine (SP.out t2 _ _ mat2 mbt2).mono ?_
      rintro e t3 ⟨⟨v4, rfl, vc, vd, rfl, om, ok, ap⟩, p9⟩
      obtain ⟨co, cc, rfl⟩ := Hub.OwnL.shape om
      obtain ⟨so, sc, rfl⟩ := Hub.OwnL.shape ok
      have Bt3 : Below W1.heap.size W1 t3 := Bt2.trans (p9.mono Bt2.size)
      have zt3 := p9.size
      have yt3 := Bt2.size
      have et3 := (p9.block (t1.heap.size) (Array.getElem?_eq_some_iff.1 et2).1).trans et2
      clear p9
      go_wp2_with fail
      refine hK.out _ _ (SL.out t3 Bt3) (fun _ => ?_)
      clear hK K
      try simp only [Act.put, List.setIfInBounds_toArray, List.set_cons_zero, List.set_cons_succ, List.getElem_toArray, List.getElem_cons_zero, List.getElem_cons_succ]
      refine wpAnyH_take (i := 5) (v := ?_) rfl (by kernel_rfl) (by kernel_rfl) (by kernel_rfl) (fun _ _ _ h => h) (Or.inl ⟨by rfl, ?takeYq46⟩) (SL.out t3 Bt3) ?takeRq46
      case takeYq46 => (intro w9 hSw; (try dsimp only at hSw); go_simp; try (with_reducible rfl))
      simp only [Act.put, List.setIfInBounds_toArray, List.set_cons_zero, List.set_cons_succ, List.getElem_toArray, List.getElem_cons_zero, List.getElem_cons_succ]
      refine wpAnyH_take (i := 6) (v := ?_) rfl (by kernel_rfl) (by kernel_rfl) (by kernel_rfl) (fun _ _ _ h => h) (Or.inl ⟨by rfl, ?takeYq47⟩) (SL.out t3 Bt3) ?takeRq47
      case takeYq47 => (intro w9 hSw; (try dsimp only at hSw); go_simp; try (with_reducible rfl))
      simp only [Act.put, List.setIfInBounds_toArray, List.set_cons_zero, List.set_cons_succ, List.getElem_toArray, List.getElem_cons_zero, List.getElem_cons_succ]
      refine wpAnyH_take (i := 7) (v := ?_) rfl (by kernel_rfl) (by kernel_rfl) (by kernel_rfl) (fun _ _ _ h => h) (Or.inl ⟨by rfl, ?takeYq48⟩) (SL.out t3 Bt3) ?takeRq48
      case takeYq48 => (intro w9 hSw; (try dsimp only at hSw); go_simp; try (with_reducible rfl))
      simp only [Act.put, List.setIfInBounds_toArray, List.set_cons_zero, List.set_cons_succ, List.getElem_toArray, List.getElem_cons_zero, List.getElem_cons_succ]
      refine wpAnyH_ready (rs := [9]) (by kernel_rfl) (by simp) ?_
      refine AllReadyH.cons rfl (fun K hK => ?_) AllReadyH.nil
      obtain ⟨x0, x1, x2, x3, x4⟩ := Hub.rm_cells et3
      have fz9 : ∀ j, t3.frozen? ⟨t1.heap.size, j, none⟩ = false := fun j => by simp [World.frozen?, et3]
      go_simp
      obtain ⟨tW, hW9⟩ : ∃ W9, Hub.roomW t3 (t1.heap.size) nA xA (.slice co nn cc) (.slice so zz sc) sA = W9 := ⟨_, rfl⟩
      have e9 : tW.heap[t1.heap.size]? = some (.cells #[.string nA, .int .i64 xA, .slice co nn cc, .slice so zz sc, .string sA] 33 (0, 0)) := by rw [← hW9]; exact Hub.roomW_heap et3 _ _ _ _ _
      have lE : W1.heap.size ≤ t1.heap.size := by omega
      have b9 : Below W1.heap.size W1 tW := by rw [← hW9]; exact Hub.roomW_below Bt3 lE _ _ _ _ _
      have ML := Hub.OwnL.lt om
      have KL := Hub.OwnL.lt ok
      have neM : (Value.slice co nn cc).ownBlock ≠ some (t1.heap.size) := fun e => by first | (have := ML _ e; omega) | (have := ML0 _ e; omega)
      have neK : (Value.slice so zz sc).ownBlock ≠ some (t1.heap.size) := fun e => by first | (have := KL _ e; omega) | (have := KL0 _ e; omega)
      have o9 : Hub.OwnM tW t2.heap.size (.slice co nn cc) nn UA NA RA := by rw [← hW9]; exact Hub.OwnL.kept om Hub.roomW_grown (.inr neM)
      have k9 : Hub.OwnK tW t2.heap.size (.slice so zz sc) zz KA QA := by rw [← hW9]; exact Hub.OwnL.kept ok Hub.roomW_grown (.inr neK)
      unfold Hub.roomW at hW9
      rw [hW9]
      refine hK.out _ _ (SL.out tW b9) (fun _ => ?_)
      clear hK K
      try simp only [Act.put, List.setIfInBounds_toArray, List.set_cons_zero, List.set_cons_succ, List.getElem_toArray, List.getElem_cons_zero, List.getElem_cons_succ]
      refine wpAnyH_take (i := 10) (v := ?_) rfl (by kernel_rfl) (by kernel_rfl) (by kernel_rfl) (fun _ _ _ h => h) (Or.inl ⟨by rfl, ?takeYq49⟩) (SL.out tW b9) ?takeRq49
      case takeYq49 => (intro w9 hSw; (try dsimp only at hSw); go_simp; try (with_reducible rfl))
      simp only [Act.put, List.setIfInBounds_toArray, List.set_cons_zero, List.set_cons_succ, List.getElem_toArray, List.getElem_cons_zero, List.getElem_cons_succ]
      refine wpAnyH_done (by kernel_rfl) ?_ _
      exact TAIL8.out (t1.heap.size) tW co cc so sc _ _ _ _ _ _ _ _ _ _ _ _ _ _ _ _ _ _ b9 e9 (Hub.OwnM.mem o9) (Hub.OwnK.rank k9)
  · skip
    go_simp
    obtain ⟨tV, htV⟩ : ∃ V, (w3.alloc (.cells #[.string ⟨#[]⟩, .int .i64 0, .slice none 0 0, .slice none 0 0, .string ⟨#[]⟩] 33)).drew = V := ⟨_, rfl⟩
    have BtV : Below W1.heap.size W1 tV := by rw [← htV]; exact BD8.alloc BD8.size (.cells #[.string ⟨#[]⟩, .int .i64 0, .slice none 0 0, .slice none 0 0, .string ⟨#[]⟩] 33)
    have etV : tV.heap[w3.heap.size]? = some (.cells #[.string ⟨#[]⟩, .int .i64 0, .slice none 0 0, .slice none 0 0, .string ⟨#[]⟩] 33 (0, 0)) := by rw [← htV]; exact World.alloc_heap_new w3.drew _
    have ltV : w3.heap.size < tV.heap.size := by rw [← htV]; simp
    have ztV := BD8.size
    rw [htV]
    clear htV
    refine hK.out _ _ (SL.out tV BtV) (fun _ => ?_)
    clear hK K
    try simp only [Act.put, List.setIfInBounds_toArray, List.set_cons_zero, List.set_cons_succ, List.getElem_toArray, List.getElem_cons_zero, List.getElem_cons_succ]
    refine wpAnyH_ready (rs := [1]) (by kernel_rfl) (by simp) ?_
    refine AllReadyH.cons rfl (fun K hK => ?_) AllReadyH.nil
    go_simp
    refine (TO.out tV (BtV)).mono ?_
    rintro e t1 ⟨⟨v1, rfl, va, vb, rfl, oa, ob, -⟩, p9⟩
    obtain ⟨ao, ac, rfl⟩ := Hub.OwnL.shape oa
    obtain ⟨bo, bc, rfl⟩ := Hub.OwnL.shape ob
    have mat1 := Hub.OwnM.mem oa
    have mbt1 := Hub.OwnK.rank ob
    clear oa ob
    have Bt1 : Below W1.heap.size W1 t1 := BtV.trans (p9.mono BtV.size)
    have zt1 := p9.size
    have yt1 := BtV.size
    have et1 := (p9.block (w3.heap.size) (Array.getElem?_eq_some_iff.1 etV).1).trans etV
    clear p9
    go_wp2_with fail
    refine hK.out _ _ (SL.out t1 Bt1) (fun _ => ?_)
    clear hK K
    try simp only [Act.put, List.setIfInBounds_toArray, List.set_cons_zero, List.set_cons_succ, List.getElem_toArray, List.getElem_cons_zero, List.getElem_cons_succ]
    refine wpAnyH_ready (rs := [3]) (by kernel_rfl) (by simp) ?_
    refine AllReadyH.cons rfl (fun K hK => ?_) AllReadyH.nil
    go_simp
    refine (TE.out t1).mono ?_
    rintro e t2 ⟨rfl, p9⟩
    have mat2 := mat1.below p9
    have mbt2 := mbt1.below p9
    have Bt2 : Below W1.heap.size W1 t2 := Bt1.trans (p9.mono Bt1.size)
    have zt2 := p9.size
    have yt2 := Bt1.size
    have et2 := (p9.block (w3.heap.size) (Array.getElem?_eq_some_iff.1 et1).1).trans et1
    clear p9
    go_wp2_with fail
    refine hK.out _ _ (SL.out t2 Bt2) (fun _ => ?_)
    clear hK K
    try simp only [Act.put, List.setIfInBounds_toArray, List.set_cons_zero, List.set_cons_succ, List.getElem_toArray, List.getElem_cons_zero, List.getElem_cons_succ]
    refine wpAnyH_ready (rs := [4]) (by kernel_rfl) (by simp) ?_
    refine AllReadyH.cons rfl (fun K hK => ?_) AllReadyH.nil
    go_simp
    refine (SP.out t2 _ _ mat2 mbt2).mono ?_
    rintro e t3 ⟨⟨v4, rfl, vc, vd, rfl, om, ok, ap⟩, p9⟩
    obtain ⟨co, cc, rfl⟩ := Hub.OwnL.shape om
    obtain ⟨so, sc, rfl⟩ := Hub.OwnL.shape ok
    have Bt3 : Below W1.heap.size W1 t3 := Bt2.trans (p9.mono Bt2.size)
    have zt3 := p9.size
    have yt3 := Bt2.size
    have et3 := (p9.block (w3.heap.size) (Array.getElem?_eq_some_iff.1 et2).1).trans et2
    clear p9
    go_wp2_with fail
    refine hK.out _ _ (SL.out t3 Bt3) (fun _ => ?_)
    clear hK K
    try simp only [Act.put, List.setIfInBounds_toArray, List.set_cons_zero, List.set_cons_succ, List.getElem_toArray, List.getElem_cons_zero, List.getElem_cons_succ]
    refine wpAnyH_take (i := 5) (v := ?_) rfl (by kernel_rfl) (by kernel_rfl) (by kernel_rfl) (fun _ _ _ h => h) (Or.inl ⟨by rfl, ?takeYq50⟩) (SL.out t3 Bt3) ?takeRq50
    case takeYq50 => (intro w9 hSw; (try dsimp only at hSw); go_simp; try (with_reducible rfl))
    simp only [Act.put, List.setIfInBounds_toArray, List.set_cons_zero, List.set_cons_succ, List.getElem_toArray, List.getElem_cons_zero, List.getElem_cons_succ]
    refine wpAnyH_take (i := 6) (v := ?_) rfl (by kernel_rfl) (by kernel_rfl) (by kernel_rfl) (fun _ _ _ h => h) (Or.inl ⟨by rfl, ?takeYq51⟩) (SL.out t3 Bt3) ?takeRq51
    case takeYq51 => (intro w9 hSw; (try dsimp only at hSw); go_simp; try (with_reducible rfl))
    simp only [Act.put, List.setIfInBounds_toArray, List.set_cons_zero, List.set_cons_succ, List.getElem_toArray, List.getElem_cons_zero, List.getElem_cons_succ]
    refine wpAnyH_take (i := 7) (v := ?_) rfl (by kernel_rfl) (by kernel_rfl) (by kernel_rfl) (fun _ _ _ h => h) (Or.inl ⟨by rfl, ?takeYq52⟩) (SL.out t3 Bt3) ?takeRq52
    case takeYq52 => (intro w9 hSw; (try dsimp only at hSw); go_simp; try (with_reducible rfl))
    simp only [Act.put, List.setIfInBounds_toArray, List.set_cons_zero, List.set_cons_succ, List.getElem_toArray, List.getElem_cons_zero, List.getElem_cons_succ]
    refine wpAnyH_ready (rs := [9]) (by kernel_rfl) (by simp) ?_
    refine AllReadyH.cons rfl (fun K hK => ?_) AllReadyH.nil
    obtain ⟨x0, x1, x2, x3, x4⟩ := Hub.rm_cells et3
    have fz9 : ∀ j, t3.frozen? ⟨w3.heap.size, j, none⟩ = false := fun j => by simp [World.frozen?, et3]
    go_simp
    obtain ⟨tW, hW9⟩ : ∃ W9, Hub.roomW t3 (w3.heap.size) nA xA (.slice co nn cc) (.slice so zz sc) sA = W9 := ⟨_, rfl⟩
    have e9 : tW.heap[w3.heap.size]? = some (.cells #[.string nA, .int .i64 xA, .slice co nn cc, .slice so zz sc, .string sA] 33 (0, 0)) := by rw [← hW9]; exact Hub.roomW_heap et3 _ _ _ _ _
    have lE : W1.heap.size ≤ w3.heap.size := by omega
    have b9 : Below W1.heap.size W1 tW := by rw [← hW9]; exact Hub.roomW_below Bt3 lE _ _ _ _ _
    have ML := Hub.OwnL.lt om
    have KL := Hub.OwnL.lt ok
    have neM : (Value.slice co nn cc).ownBlock ≠ some (w3.heap.size) := fun e => by first | (have := ML _ e; omega) | (have := ML0 _ e; omega)
    have neK : (Value.slice so zz sc).ownBlock ≠ some (w3.heap.size) := fun e => by first | (have := KL _ e; omega) | (have := KL0 _ e; omega)
    have o9 : Hub.OwnM tW t2.heap.size (.slice co nn cc) nn UA NA RA := by rw [← hW9]; exact Hub.OwnL.kept om Hub.roomW_grown (.inr neM)
    have k9 : Hub.OwnK tW t2.heap.size (.slice so zz sc) zz KA QA := by rw [← hW9]; exact Hub.OwnL.kept ok Hub.roomW_grown (.inr neK)
    unfold Hub.roomW at hW9
    rw [hW9]
    refine hK.out _ _ (SL.out tW b9) (fun _ => ?_)
    clear hK K
    try simp only [Act.put, List.setIfInBounds_toArray, List.set_cons_zero, List.set_cons_succ, List.getElem_toArray, List.getElem_cons_zero, List.getElem_cons_succ]
    refine wpAnyH_take (i := 10) (v := ?_) rfl (by kernel_rfl) (by kernel_rfl) (by kernel_rfl) (fun _ _ _ h => h) (Or.inl ⟨by rfl, ?takeYq53⟩) (SL.out tW b9) ?takeRq53
    case takeYq53 => (intro w9 hSw; (try dsimp only at hSw); go_simp; try (with_reducible rfl))
    simp only [Act.put, List.setIfInBounds_toArray, List.set_cons_zero, List.set_cons_succ, List.getElem_toArray, List.getElem_cons_zero, List.getElem_cons_succ]
    refine wpAnyH_done (by kernel_rfl) ?_ _
    exact TAIL8.out (w3.heap.size) tW co cc so sc _ _ _ _ _ _ _ _ _ _ _ _ _ _ _ _ _ _ b9 e9 (Hub.OwnM.mem o9) (Hub.OwnK.rank k9)

theorem own : ownKnob Tryz.prog.godebug = none := by kernel_rfl
theorem tabs_of {W : World} (h : laidMetH Tryz.prog Rows.fnExactRoomApplyRow.laid W) : Hub.Tabs W := by
  rw [MakeChecks.laidMetH_plain _ _ _ (by kernel_rfl)] at h
  have e1 : Rows.laid_unicode_utf8_acceptRanges = Lib.acceptData := by kernel_rfl
  have e2 : Rows.laid_unicode_utf8_first = Lib.firstData := Pinned.utf8First_eq
  have r1 := Lib.laidMet.reads h (.head _)
  have r2 := Lib.laidMet.reads h (.tail _ (.head _))
  rw [e1] at r1
  rw [e2] at r2
  exact utf8Tabs_of_readsT (U8Types.of196 Tryz.lays196) ⟨by kernel_rfl, by kernel_rfl, by kernel_rfl, by kernel_rfl, by kernel_rfl, by kernel_rfl, by kernel_rfl⟩ r2 r1

theorem laidOut : laidOutB Tryz.prog = true := by kernel_rfl
set_option maxRecDepth 100000 in
theorem lifted (os : Os) (started : os.Started) (H : Type) (enc : TypeId × Value → H) :
    ReturnsInHanded {} Tryz.checked os 3 .any (fun w args => (Rows.fnExactRoomApplySpec.pre enc Tryz.prog Tryz.f3 Rows.fnExactRoomApplyRow.domain false w args ∧ laidMetH Tryz.prog Rows.fnExactRoomApplyRow.laid w) ∧ sizedMet enc Tryz.prog Tryz.f3 (OpenSpec.ofChange Rows.fnExactRoomApplySpec) false w args)
      (Rows.fnExactRoomApplySpec.post enc Tryz.prog Tryz.f3 false true false false) := by
  refine returnsInHanded_of_change_and (C := Tryz.checked) (X := fun w _ => laidMetH Tryz.prog Rows.fnExactRoomApplyRow.laid w) (fun _ _ _ hh h => h.of_heap hh) own started (by kernel_rfl) Tryz.func3
    (ChangeSpec.witness_shaped (enc := enc) (C := Tryz.checked) (os := os) (X := fun w _ => laidMetH Tryz.prog Rows.fnExactRoomApplyRow.laid w) false (World.laidAll Tryz.prog os Rows.fnExactRoomApplyRow.laid) #[.agg #[.string ByteArray.empty, .int .i64 0, .slice none 0 0, .slice none 0 0, .string ByteArray.empty], .agg #[.string ByteArray.empty, .int .i64 0, .int .i64 0, .string ByteArray.empty, .string ByteArray.empty, .string ByteArray.empty, .string ByteArray.empty, .string ByteArray.empty, .int .i64 0]] 8 (World.laidAll_os _ _ _)
      (World.shaped_of_ZipB (by kernel_rfl) (by kernel_rfl)) (by kernel_rfl) (by kernel_rfl) (by kernel_rfl)
      (by rw [MakeChecks.laidMetH_plain _ _ _ (by kernel_rfl)]; exact laidMet_laidAll _ (by kernel_rfl) (by kernel_rfl))) ?_
  intro W base args ds gs before hval0 hW hc _ hL _
  have hval : ∀ (j : Nat) t v, Tryz.f3.params[j]? = some t → args[j]? = some v → Value.okWide Tryz.prog W .any base t v := hval0
  have hW' := hW
  obtain ⟨p, q, hA0, hV, rfl, _, _⟩ := hW
  have hA : DataW.TrodAll enc Tryz.prog W 0 (fun _ => true) true Tryz.f3.params.toList args.toList ds p := hA0
  rw [Tryz.params3] at hA hval
  obtain ⟨v0, vs0, d0, ds0, p0, q_0, hargs, rfl, rfl, h0, r0⟩ := trodAll_cons hA
  obtain ⟨v1, vs1, d1, ds1, p1, q_1, hx1, rfl, rfl, h1, r1⟩ := trodAll_cons r0
  obtain ⟨hnil, rfl, rfl⟩ := trodAll_nil r1
  subst hnil
  obtain rfl : args = #[v0, v1] := by cases args; simp_all
  obtain ⟨rfl, rfl⟩ := trodVars_none hV
  obtain ⟨nm, nx, vm, vk, sb, n, U, N, R, z, KU, KR, e0, wn, ws, hm, hs, hk, hz⟩ := Hub.open_room (hval 0 25 v0 rfl rfl) h0
  subst e0
  obtain ⟨s0, s1, s2, s3, s4, s5, s6, s7, s8, e1, w0, w3, w4, w5, w6, w7⟩ := Hub.open_entry (hval 1 27 v1 rfl rfl) h1
  subst e1
  simp only [List.append_nil] at hW'
  have hlt0 := hW'.lt
  refine (walk nm sb nx vm vk n U N R z KU KR s0 s1 s2 s3 s4 s5 s6 s7 s8 W (tabs_of hL) wn ws hm hs hk hz w0 w3 w4 w5 w6 w7).mono fun e W' ⟨he, bel⟩ => ?_
  subst he
  exact ⟨_, rfl, _, _, _, [], _, [], hW', trodAll_mk1 (shut_bool Tryz.underlying4 _), (trodAll_cons_mk (Below.trod laidOut (by kernel_rfl) (of_decide_eq_true (by kernel_rfl)) h0 bel (fun x hx => hlt0 x (by simp [hx]))) (trodAll_cons_mk (Below.trod laidOut (by kernel_rfl) (of_decide_eq_true (by kernel_rfl)) h1 bel (fun x hx => hlt0 x (by simp [hx]))) trodAll_mk0)), rfl, bel.frame _, fun h => by cases h⟩

theorem holds : Rows.FnExactRoomApplySaid :=
  OpenClaim.holds_of_wide 3 Tryz.f3 rfl rfl rfl rfl rfl rfl rfl ⟨rfl, rfl, rfl, rfl, rfl⟩ rfl rfl rfl rfl rfl (by kernel_rfl) Tryz.func3 (by kernel_rfl)
    (of_decide_eq_true (by kernel_rfl)) (by unfold Func.isWrapper; first | (rw [if_pos (by decide +kernel)]; kernel_rfl) | (rw [if_neg (by decide +kernel)]; exact ⟨rfl, rfl⟩))
    (fun os started H enc _ => lifted os started H enc)
theorem card_holds : Rows.FnExactRoomApplyCardSaid :=
  Claim7.holds_tied_plain_at .later [] [.data, .pinned] true (true, "811f83e9b447c653794bbaf16b4af30489aa353853a54123fb316d463c0f2b65") false holds (fun _ h => by cases h) (by kernel_rfl) (fun _ h => by cases h) fnExactRoomApply_row_tie rfl ⟨rfl, rfl⟩ (by kernel_rfl) rfl
    (fun f fn hf hfn => by
      obtain rfl : f = 3 := Option.some.inj ((show Tryz.prog.funcNamed Rows.fnExactRoomApplyRow.func = some 3 by kernel_rfl).symm.trans hf) |>.symm
      obtain rfl : fn = Tryz.f3 := (Option.some.inj (Tryz.func3.symm.trans hfn)).symm
      exact ⟨by kernel_rfl, fun j t ht => by
        rw [Tryz.params3] at ht
        have hm : t ∈ [25, 27] := by simpa using Array.mem_of_getElem? ht
        have hall : ([25, 27].all fun u => !Tryz.prog.wantsStandIn u) = true := by kernel_rfl
        exact (show Tryz.prog.wantsStandIn t = false by simpa using List.all_eq_true.1 hall t hm)⟩)
    (by kernel_rfl)
#print axioms card_holds
end Go.Proofs.YtgjlgddglgffmaaGreatDoor.fnExactRoomApply

namespace Go.Proofs.YtgjlgddglgffmaaGreatDoor
/-- The statement. -/
theorem fnExactRoomApply_card : Rows.FnExactRoomApplyCardSaid := fnExactRoomApply.card_holds
end Go.Proofs.YtgjlgddglgffmaaGreatDoor
