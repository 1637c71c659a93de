/-
  Texts of this claim put together: Jn3.
-/
import Derived.Test.YtecbpmnolgkllaaJ35
import Derived.Deep.RegionLaw
/-
  Contracts of the journal's reading of seals.
-/
namespace Go.Proofs.Ytecbpmnolgkllaa
open Go.RowKit

set_option maxRecDepth 100000 in
theorem Num_take {w : World} {g x : Nat} {t : List UInt8} (h : Rdr w g (numB x ++ t) 0) (hx : x ≤ 100000) (hl : t.length ≤ 900000) :
    Calls Try.prog 54 #[.pointer (some ⟨g, 0, none⟩), .int .u64 18446744073709551615] w fun e w' => e = .returned (.int .u64 (x : Int)) ∧ Rdr w' g t 0 ∧ w.grownBy w' (some g) := by
  have hlen := numB_length x (by omega)
  have := Num_st (s := (numB x ++ t, 0)) 18446744073709551615 h ⟨.inl rfl, by rw [List.length_append]; omega⟩
  rw [numS_put t (by omega) (by omega)] at this
  exact this
set_option maxRecDepth 100000 in
theorem Num_short {w : World} {g : Nat} {er : Int} (h : Rdr w g [] er) (he : er = 0 ∨ er = 2) :
    Calls Try.prog 54 #[.pointer (some ⟨g, 0, none⟩), .int .u64 18446744073709551615] w fun e w' => e = .returned (.int .u64 0) ∧ Rdr w' g [] 2 ∧ w.grownBy w' (some g) := by
  have := Num_st (s := ([], er)) 18446744073709551615 h ⟨by rcases he with rfl | rfl <;> simp, by simp⟩
  have e1 : numS 18446744073709551615 ([], er) = (0, ([], 2)) := by
    rcases he with rfl | rfl
    · rfl
    · rfl
  rw [e1] at this
  exact this

theorem BoxAt.keep13 {w w' : World} {z g : Nat} {cs : Array Value} {T : TypeId} (h : BoxAt w z cs T) (hw : w.grownBy w' (some g)) (hne : g ≠ z) : BoxAt w' z cs T := (hw.block z h.lt (fun e => hne (by injection e with e; exact e.symm))).trans h
def zse : Array Value := #[.int .u64 0, .int .u64 0, .int .u64 0]
theorem box3 {w : World} {z : Nat} {c0 c1 c2 : Value} {T : TypeId} (b : BoxAt w z #[c0, c1, c2] T) (v0 v1 v2 : Value) :
    BoxAt (((w.setCell ⟨z, 0, none⟩ v0).setCell ⟨z, 1, none⟩ v1).setCell ⟨z, 2, none⟩ v2) z #[v0, v1, v2] T := by
  have := ((b.set9 0 v0).set9 1 v1).set9 2 v2
  simpa using this
theorem grown3 (w : World) (z : Nat) (v0 v1 v2 : Value) : w.grownBy (((w.setCell ⟨z, 0, none⟩ v0).setCell ⟨z, 1, none⟩ v1).setCell ⟨z, 2, none⟩ v2) (some z) :=
  grown_set (grown_set (grown_set (World.grownBy.refl w _) 0 v0) 1 v1) 2 v2

set_option maxRecDepth 100000 in
set_option maxHeartbeats 1600000 in
theorem getSeal_right {w : World} {L : Lay} {D : Dk} (h : DiskAt w L D) (hc : D.calm) (hw : D.waits = []) (a t g k : Nat) (ht : t ≤ 100000) (hg : g ≤ 100000) (hk : k ≤ 100000) (hs : D.kept a = frameB (sealB t g k) D.n) (hac : a < D.c) (hta : t % 2 = a) :
    Calls Try.prog 48 #[.pointer (some ⟨L.b, 0, none⟩), .int .i64 (a : Int)] w fun e w' => e = .returned (.tuple #[seV t g k, .bool true]) ∧ Below w.heap.size w w' := by
  have hn1 := h.ok.n1
  have ha4 : a ≤ 4096 := by have := h.ok.c2; omega
  have hl := sealB_len (t := t) (g := g) (k := k) (by omega) (by omega) (by omega)
  have h1 : secN ((sealB t g k).length + 10) D.n = 1 := secN_one (by omega) (by omega)
  obtain ⟨W0, hW0⟩ : ∃ W, w.alloc (.cells #[.int .u64 0, .int .u64 0, .int .u64 0] 75) = W := ⟨_, rfl⟩
  have hb0 : Below w.heap.size w W0 := hW0 ▸ (Below.refl _ _).alloc (Nat.le_refl _) _
  have HZ0 := hide_ (show BoxAt W0 w.heap.size #[.int .u64 0, .int .u64 0, .int .u64 0] 75 from hW0 ▸ BoxAt.new w _ _)
  have HG := hide_ (getFrame_right (h.below hb0) hc hw a (a + 1) (sealB t g k) (by omega) (by rw [h1, secs_one]; exact hs) (by omega) (by omega))
  rw [h1, show ((1 : Nat) : Int) = 1 from rfl] at HG
  have HB0 := hide_ hb0
  have HW0 := hide_ hW0
  have HL := hide_ hl
  obtain ⟨bc, hbc⟩ : ∃ bc, L.b = bc := ⟨_, rfl⟩
  rw [hbc] at HG ⊢
  obtain ⟨m, hm⟩ : ∃ m, (sealB t g k).length = m := ⟨_, rfl⟩
  rw [hm] at HG
  have HM := hide_ hm
  have hma : ((a + 1 : Nat) : Int) = (a : Int) + 1 := by omega
  rw [hma] at HG
  have HTA := hide_ hta
  have hm30 : m ≤ 30 := by omega
  obtain ⟨g4, hg4⟩ : ∃ g, w.heap.size = g := ⟨_, rfl⟩
  have HG4 := hide_ hg4
  rw [hg4] at HZ0
  clear h hc hw hs hn1 h1 hb0 hW0 hl hbc hm hma hac hta hg4
  go_enter Try.func48, Try.ntmps48
  go_upto_region 1 with fail
  rw [HW0.out, HG4.out]
  go_wp2_with fail
  with_reducible refine HG.out.mono ?_
  rintro e w1 ⟨A1, c1, rfl, hs1, hb1⟩
  have HZ1 := hide_ (HZ0.out.below hb1)
  have HB1 := hide_ (HB0.out.trans (hb1.mono HB0.out.size))
  have HN := hide_ (New_any (sealB t g k) w1.heap.size A1 m c1 w1 HM.out hs1 (Nat.le_refl _) (by omega))
  clear hs1 hb1 HG HW0
  go_wp2_with fail
  with_reducible refine HN.out.mono ?_
  rintro e w2 ⟨g8, rfl, hg8, hr2, hb2⟩
  have HZ2 := hide_ (HZ1.out.below hb2)
  have HB2 := hide_ (HB1.out.trans (hb2.mono HB1.out.size))
  have HG8 := hide_ (show g4 < g8 ∧ w.heap.size ≤ g8 from ⟨Nat.lt_of_lt_of_le HZ1.out.lt hg8, Nat.le_trans HB1.out.size hg8⟩)
  have HN1 := hide_ (Num_take (x := t) (t := numB g ++ numB k) (by rw [← List.append_assoc]; exact hr2) ht (by have := HL.out; unfold sealB at this; simp only [List.length_append] at this ⊢; omega))
  clear hg8 hr2 hb2 HN HZ1 HB1
  go_upto_region 3 with fail
  go_wp2_with fail
  with_reducible refine HN1.out.mono ?_
  rintro e w3 ⟨rfl, hr3, hg3⟩
  have HZ3 := hide_ (BoxAt.keep13 HZ2.out hg3 (by have := HG8.out.1; omega))
  have HB3 := hide_ (HB2.out.grown hg3 HB2.out.size (fun q e => by cases e; exact HG8.out.2))
  have HN2 := hide_ (Num_take (x := g) (t := numB k) hr3 hg (by have := HL.out; unfold sealB at this; simp only [List.length_append] at this; omega))
  clear hr3 hg3 HN1 HZ2
  go_wp2_with fail
  with_reducible refine HN2.out.mono ?_
  rintro e w4 ⟨rfl, hr4, hg4⟩
  have HZ4 := hide_ (BoxAt.keep13 HZ3.out hg4 (by have := HG8.out.1; omega))
  have HB4 := hide_ (HB3.out.grown hg4 HB3.out.size (fun q e => by cases e; exact HG8.out.2))
  have HN3 := hide_ (Num_take (x := k) (t := []) (by rw [List.append_nil]; exact hr4) hk (by simp))
  clear hr4 hg4 HN2 HZ3
  go_wp2_with fail
  with_reducible refine HN3.out.mono ?_
  rintro e w5 ⟨rfl, hr5, hg5⟩
  have HZ5 := hide_ (BoxAt.keep13 HZ4.out hg5 (by have := HG8.out.1; omega))
  have HB5 := hide_ (HB4.out.grown hg5 HB4.out.size (fun q e => by cases e; exact HG8.out.2))
  have HR5 := hide_ hr5
  clear hr5 hg5 HN3 HZ4 HB4 HB3 HB2
  go_upto_region 4 with fail
  obtain ⟨W6, hW6⟩ : ∃ W, w5.alloc (.cells #[.int .u64 (t : Int), .int .u64 (g : Int), .int .u64 (k : Int)] 75) = W := ⟨_, rfl⟩
  obtain ⟨g9, hg9⟩ : ∃ g, w5.heap.size = g := ⟨_, rfl⟩
  have hb6 : Below w5.heap.size w5 W6 := hW6 ▸ (Below.refl _ _).alloc (Nat.le_refl _) _
  have HS6 := hide_ (show BoxAt W6 g9 #[.int .u64 (t : Int), .int .u64 (g : Int), .int .u64 (k : Int)] 75 from hg9 ▸ hW6 ▸ BoxAt.new w5 _ _)
  have HZ6 := hide_ (HZ5.out.below hb6)
  have HB6 := hide_ (HB5.out.trans (hb6.mono HB5.out.size))
  have HR6 := hide_ (HR5.out.below hb6)
  have HEN := hide_ (show ∀ u, Below W6.heap.size W6 u → Calls Try.prog 56 #[.pointer (some ⟨g8, 0, none⟩)] u fun e w' => e = .returned (.int .i64 0) ∧ u = w' from fun u hu => by
    have := End_st (s := ([], 0)) (HR6.out.below hu)
    simpa [endS] using this)
  have HPL := hide_ (show ∀ u : World, Calls Try.prog 62 #[.agg #[.int .u64 (t : Int), .int .u64 (g : Int), .int .u64 (k : Int)]] u fun e w' => e = .returned (.int .i64 (a : Int)) ∧ Below u.heap.size u w' from fun u => by
    have := place_any t g k u
    rwa [HTA.out] at this)
  rw [hW6, hg9]
  have cs := HS6.out.cell
  have cz := HZ6.out.cell
  have fz := HZ6.out.free9
  clear hW6 hg9 hb6 HR5 HZ5 HB5 HL HM HTA HR6
  go_region_law (first | (go_simp; go_at_call 56; refine (HEN.out _ ((Below.refl _ _).drew)).mono ?_; rintro _ _ ⟨rfl, rfl⟩) | (go_simp; go_at_call 62; refine (HPL.out _).mono ?_; rintro _ w7 ⟨rfl, hb7⟩; (have hb67 : Below W6.heap.size W6 w7 := ((Below.refl _ _).drew).trans hb7); (have HB7 := hide_ (HB6.out.trans (hb67.mono HB6.out.size))); (have HZ7 := hide_ (HZ6.out.below hb67)); (have cs7 := (HS6.out.below hb67).cell); (have cz7 := HZ7.out.cell); (have fz7 := HZ7.out.free9); clear hb67 hb7))
  all_goals go_wp2
  all_goals
    have HE := hide_ (box3 HZ7.out (.int .u64 (t : Int)) (.int .u64 (g : Int)) (.int .u64 (k : Int)))
    have q0 := HE.out.cell 0
    have q1 := HE.out.cell 1
    have q2 := HE.out.cell 2
    simp only [List.getElem?_toArray, List.getElem?_cons_zero, List.getElem?_cons_succ] at q0 q1 q2
    refine bodyPost_ret (v := .tuple #[seV t g k, .bool true]) (by simp [results, Try.results48, go_sem, q0, q1, q2, seV]) rfl ?_
    refine ⟨rfl, ?_⟩
    exact HB7.out.grown (grown3 w7 g4 _ _ _) HB7.out.size (fun q e => by cases e; rw [HG4.out]; exact Nat.le_refl _)

set_option maxRecDepth 100000 in
set_option maxHeartbeats 1600000 in
theorem getSeal_zero {w : World} {L : Lay} {D : Dk} (h : DiskAt w L D) (hc : D.calm) (hw : D.waits = []) (a : Nat) (hs : D.kept a = List.replicate D.n 0) (hac : a < D.c) :
    Calls Try.prog 48 #[.pointer (some ⟨L.b, 0, none⟩), .int .i64 (a : Int)] w fun e w' => e = .returned (.tuple #[seV 0 0 0, .bool false]) ∧ Below w.heap.size w w' := by
  have ha4 : a ≤ 4096 := by have := h.ok.c2; omega
  obtain ⟨W0, hW0⟩ : ∃ W, w.alloc (.cells #[.int .u64 0, .int .u64 0, .int .u64 0] 75) = W := ⟨_, rfl⟩
  have hb0 : Below w.heap.size w W0 := hW0 ▸ (Below.refl _ _).alloc (Nat.le_refl _) _
  have HZ0 := hide_ (show BoxAt W0 w.heap.size #[.int .u64 0, .int .u64 0, .int .u64 0] 75 from hW0 ▸ BoxAt.new w _ _)
  have HG := hide_ (getFrame_zero (h.below hb0) hc hw a (a + 1) hs hac)
  have HB0 := hide_ hb0
  have HW0 := hide_ hW0
  obtain ⟨bc, hbc⟩ : ∃ bc, L.b = bc := ⟨_, rfl⟩
  rw [hbc] at HG ⊢
  have hma : ((a + 1 : Nat) : Int) = (a : Int) + 1 := by omega
  rw [hma] at HG
  obtain ⟨g4, hg4⟩ : ∃ g, w.heap.size = g := ⟨_, rfl⟩
  have HG4 := hide_ hg4
  rw [hg4] at HZ0
  clear h hc hw hs hb0 hW0 hbc hma hac hg4
  go_enter Try.func48, Try.ntmps48
  go_upto_region 1 with fail
  rw [HW0.out, HG4.out]
  go_wp2_with fail
  with_reducible refine HG.out.mono ?_
  rintro e w1 ⟨rfl, hb1⟩
  have HZ1 := hide_ (HZ0.out.below hb1)
  have HB1 := hide_ (HB0.out.trans (hb1.mono HB0.out.size))
  have HN := hide_ (New_any [] w1.heap.size none 0 0 w1 rfl (Sees.empty _ _ _) (Nat.le_refl _) (by omega))
  clear hb1 HG HW0
  go_wp2_with fail
  with_reducible refine HN.out.mono ?_
  rintro e w2 ⟨g8, rfl, hg8, hr2, hb2⟩
  have HZ2 := hide_ (HZ1.out.below hb2)
  have HB2 := hide_ (HB1.out.trans (hb2.mono HB1.out.size))
  have HG8 := hide_ (show g4 < g8 ∧ w.heap.size ≤ g8 from ⟨Nat.lt_of_lt_of_le HZ1.out.lt hg8, Nat.le_trans HB1.out.size hg8⟩)
  have HN1 := hide_ (Num_short hr2 (.inl rfl))
  clear hg8 hr2 hb2 HN HZ1 HB1
  go_upto_region 3 with fail
  go_wp2_with fail
  with_reducible refine HN1.out.mono ?_
  rintro e w3 ⟨rfl, hr3, hg3⟩
  have HZ3 := hide_ (BoxAt.keep13 HZ2.out hg3 (by have := HG8.out.1; omega))
  have HB3 := hide_ (HB2.out.grown hg3 HB2.out.size (fun q e => by cases e; exact HG8.out.2))
  have HN2 := hide_ (Num_short hr3 (.inr rfl))
  clear hr3 hg3 HN1 HZ2
  go_wp2_with fail
  with_reducible refine HN2.out.mono ?_
  rintro e w4 ⟨rfl, hr4, hg4⟩
  have HZ4 := hide_ (BoxAt.keep13 HZ3.out hg4 (by have := HG8.out.1; omega))
  have HB4 := hide_ (HB3.out.grown hg4 HB3.out.size (fun q e => by cases e; exact HG8.out.2))
  have HN3 := hide_ (Num_short hr4 (.inr rfl))
  clear hr4 hg4 HN2 HZ3
  go_wp2_with fail
  with_reducible refine HN3.out.mono ?_
  rintro e w5 ⟨rfl, hr5, hg5⟩
  have HZ5 := hide_ (BoxAt.keep13 HZ4.out hg5 (by have := HG8.out.1; omega))
  have HB5 := hide_ (HB4.out.grown hg5 HB4.out.size (fun q e => by cases e; exact HG8.out.2))
  have HR5 := hide_ hr5
  clear hr5 hg5 HN3 HZ4 HB4 HB3 HB2
  go_upto_region 4 with fail
  obtain ⟨W6, hW6⟩ : ∃ W, w5.alloc (.cells #[.int .u64 0, .int .u64 0, .int .u64 0] 75) = W := ⟨_, rfl⟩
  obtain ⟨g9, hg9⟩ : ∃ g, w5.heap.size = g := ⟨_, rfl⟩
  have hb6 : Below w5.heap.size w5 W6 := hW6 ▸ (Below.refl _ _).alloc (Nat.le_refl _) _
  have HS6 := hide_ (show BoxAt W6 g9 #[.int .u64 0, .int .u64 0, .int .u64 0] 75 from hg9 ▸ hW6 ▸ BoxAt.new w5 _ _)
  have HZ6 := hide_ (HZ5.out.below hb6)
  have HB6 := hide_ (HB5.out.trans (hb6.mono HB5.out.size))
  have HR6 := hide_ (HR5.out.below hb6)
  have HEN := hide_ (show ∀ u, Below W6.heap.size W6 u → Calls Try.prog 56 #[.pointer (some ⟨g8, 0, none⟩)] u fun e w' => e = .returned (.int .i64 2) ∧ u = w' from fun u hu => by
    have := End_st (s := ([], 2)) (HR6.out.below hu)
    simpa [endS] using this)
  rw [hW6, hg9]
  have cs := HS6.out.cell
  have cz := HZ6.out.cell
  have fz := HZ6.out.free9
  clear hW6 hg9 hb6 HR5 HZ5 HB5 HR6
  first | (go_region_law (first | (go_simp; go_at_call 56; refine (HEN.out _ ((Below.refl _ _).drew)).mono ?_; rintro _ _ ⟨rfl, rfl⟩))) | fail
  all_goals go_wp2
  all_goals
    have HE := hide_ (box3 HZ6.out (.int .u64 0) (.int .u64 0) (.int .u64 0))
    have q0 := HE.out.cell 0
    have q1 := HE.out.cell 1
    have q2 := HE.out.cell 2
    simp only [List.getElem?_toArray, List.getElem?_cons_zero, List.getElem?_cons_succ] at q0 q1 q2
    refine bodyPost_ret (v := .tuple #[seV 0 0 0, .bool false]) (by simp [results, Try.results48, go_sem, q0, q1, q2, seV]) rfl ?_
    refine ⟨rfl, ?_⟩
    exact (HB6.out.grown (grown3 W6 g4 _ _ _) HB6.out.size (fun q e => by cases e; rw [HG4.out]; exact Nat.le_refl _)).drew
end Go.Proofs.Ytecbpmnolgkllaa
