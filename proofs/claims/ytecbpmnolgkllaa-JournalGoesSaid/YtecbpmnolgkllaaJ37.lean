/-
  Texts of this claim put together: Jn4.
-/
import Derived.Test.YtecbpmnolgkllaaJ36
/-
  Contract of the journal's lastSeal.
-/
namespace Go.Proofs.Ytecbpmnolgkllaa
open Go.RowKit

set_option maxRecDepth 100000 in
set_option maxHeartbeats 1600000 in
theorem lastSeal_right {w : World} {L : Lay} {D : Dk} (h : DiskAt w L D) (hc : D.calm) (hw : D.waits = []) (h2 : 2 ≤ D.c) (m g k : Nat) (h0 : 0 < m) (hm : m ≤ 1000) (hg : g ≤ 100000) (hk : k ≤ 100000) (hs0 : D.kept 0 = frameB (sealB (2 * m) g k) D.n) (hs1 : D.kept 1 = frameB (sealB (2 * m - 1) g k) D.n) :
    Calls Try.prog 25 #[.pointer (some ⟨L.b, 0, none⟩)] w fun e w' => e = .returned (.tuple #[seV (2 * m) g k, .int .i64 0]) ∧ Below w.heap.size w w' := by
  obtain ⟨W0, hW0⟩ : ∃ W, (w.alloc (.cells #[.int .u64 0, .int .u64 0, .int .u64 0] 75)).alloc (.cells #[.int .u64 0, .int .u64 0, .int .u64 0] 75) = W := ⟨_, rfl⟩
  have hb0 : Below w.heap.size w W0 := hW0 ▸ ((Below.refl _ _).alloc (Nat.le_refl _) _).alloc (by simp) _
  have HR0 := hide_ (show BoxAt W0 w.heap.size #[.int .u64 0, .int .u64 0, .int .u64 0] 75 from hW0 ▸ (BoxAt.new w _ _).alloc _)
  have HL0 := hide_ (show BoxAt W0 (w.heap.size + 1) #[.int .u64 0, .int .u64 0, .int .u64 0] 75 from by
    have := BoxAt.new (w.alloc (.cells #[.int .u64 0, .int .u64 0, .int .u64 0] 75)) #[.int .u64 0, .int .u64 0, .int .u64 0] 75
    rw [hW0] at this
    simpa using this)
  have HB0 := hide_ hb0
  have HW0 := hide_ hW0
  obtain ⟨bc, hbc⟩ : ∃ bc, L.b = bc := ⟨_, rfl⟩
  have HG0 := hide_ (show ∀ u, Below w.heap.size w u → Calls Try.prog 48 #[.pointer (some ⟨L.b, 0, none⟩), .int .i64 0] u fun e w' => e = .returned (.tuple #[.agg #[.int .u64 ((2 * m : Nat) : Int), .int .u64 (g : Int), .int .u64 (k : Int)], .bool true]) ∧ Below u.heap.size u w' from fun u hu => getSeal_right (h.below hu) hc hw 0 (2 * m) g k (by omega) hg hk hs0 (by omega) (by omega))
  have HG1 := hide_ (show ∀ u, Below w.heap.size w u → Calls Try.prog 48 #[.pointer (some ⟨L.b, 0, none⟩), .int .i64 1] u fun e w' => e = .returned (.tuple #[.agg #[.int .u64 ((2 * m - 1 : Nat) : Int), .int .u64 (g : Int), .int .u64 (k : Int)], .bool true]) ∧ Below u.heap.size u w' from fun u hu => getSeal_right (h.below hu) hc hw 1 (2 * m - 1) g k (by omega) hg hk hs1 (by omega) (by omega))
  obtain ⟨t, ht⟩ : ∃ t, 2 * m = t := ⟨_, rfl⟩
  obtain ⟨s, hs⟩ : ∃ s, t - 1 = s := ⟨_, rfl⟩
  rw [ht] at HG0 HG1
  rw [hs] at HG1
  rw [ht]
  rw [hbc] at HG0 HG1
  rw [hbc]
  have hst : ¬ (t : Int) ≤ (s : Int) := by omega
  have ht0 : (0 : Int) ≤ (t : Int) := by omega
  clear ht hs h0 hm hs0 hs1 hbc h2
  obtain ⟨gr, hgr⟩ : ∃ g, w.heap.size = g := ⟨_, rfl⟩
  have HGR := hide_ hgr
  rw [hgr] at HR0 HL0
  clear hgr hb0 hW0 h hc hw
  go_enter Try.func25, Try.ntmps25
  go_upto_region 2 with fail
  rw [HW0.out, HGR.out]
  clear HW0
  go_wp2
  go_loopw [5, 9] (fun v i wr => ∃ cs : Array Value, ((i = .int .i64 0 ∧ v = .bool false ∧ cs = #[.int .u64 0, .int .u64 0, .int .u64 0]) ∨ (i = .int .i64 1 ∧ v = .bool true ∧ cs = #[.int .u64 (t : Int), .int .u64 (g : Int), .int .u64 (k : Int)]) ∨ (i = .int .i64 2 ∧ v = .bool true ∧ cs = #[.int .u64 (t : Int), .int .u64 (g : Int), .int .u64 (k : Int)])) ∧ Hid (BoxAt wr (gr + 1) cs 75) ∧ Hid (BoxAt wr gr #[.int .u64 0, .int .u64 0, .int .u64 0] 75) ∧ Hid (Below w.heap.size w wr)) (fun _ i _ => 2 - (intOf i).toNat)
  case atStart => exact ⟨_, .inl ⟨rfl, rfl, rfl⟩, HL0, HR0, HB0⟩
  case round =>
    obtain ⟨cs, hcase, HL, HR, HB⟩ := hrel
    rcases hcase with ⟨rfl, rfl, rfl⟩ | ⟨rfl, rfl, rfl⟩ | ⟨rfl, rfl, rfl⟩
    · have HC := hide_ (HG0.out wr HB.out)
      go_upto_region 6 with fail
      go_wp2_with fail
      with_reducible refine HC.out.mono ?_
      rintro _ w1 ⟨rfl, hb1⟩
      obtain ⟨W2, hW2⟩ : ∃ W, w1.alloc (.cells #[.int .u64 (t : Int), .int .u64 (g : Int), .int .u64 (k : Int)] 75) = W := ⟨_, rfl⟩
      obtain ⟨g7, hg7⟩ : ∃ g, w1.heap.size = g := ⟨_, rfl⟩
      have hb2 : Below w1.heap.size w1 W2 := hW2 ▸ (Below.refl _ _).alloc (Nat.le_refl _) _
      have HN := hide_ (show BoxAt W2 g7 #[.int .u64 (t : Int), .int .u64 (g : Int), .int .u64 (k : Int)] 75 from hg7 ▸ hW2 ▸ BoxAt.new w1 _ _)
      have HL2 := hide_ ((HL.out.below hb1).below hb2)
      have HR2 := hide_ ((HR.out.below hb1).below hb2)
      have HB2 := hide_ ((HB.out.trans (hb1.mono HB.out.size)).trans (hb2.mono (Nat.le_trans HB.out.size hb1.size)))
      have HW2 := hide_ hW2
      have HG7 := hide_ hg7
      clear hW2 hg7 hb1 hb2 HC
      go_upto_region 7 with fail
      rw [HW2.out, HG7.out]
      clear HW2
      have cn := HN.out.cell
      have cl := HL2.out.cell
      have fl := HL2.out.free9
      go_wp2
      go_roundw
      case rel => exact ⟨_, .inr (.inl ⟨rfl, rfl, rfl⟩), hide_ (box3 HL2.out _ _ _), hide_ (BoxAt.keep13 HR2.out (grown3 W2 (gr + 1) _ _ _) (by omega)), hide_ (HB2.out.grown (grown3 W2 (gr + 1) _ _ _) HB2.out.size (fun q e => by cases e; have := HGR.out; omega))⟩
      case measure => simp [intOf]
    · have HC := hide_ (HG1.out wr HB.out)
      go_upto_region 6 with fail
      go_wp2_with fail
      with_reducible refine HC.out.mono ?_
      rintro _ w1 ⟨rfl, hb1⟩
      obtain ⟨W2, hW2⟩ : ∃ W, w1.alloc (.cells #[.int .u64 (s : Int), .int .u64 (g : Int), .int .u64 (k : Int)] 75) = W := ⟨_, rfl⟩
      obtain ⟨g7, hg7⟩ : ∃ g, w1.heap.size = g := ⟨_, rfl⟩
      have hb2 : Below w1.heap.size w1 W2 := hW2 ▸ (Below.refl _ _).alloc (Nat.le_refl _) _
      have HN := hide_ (show BoxAt W2 g7 #[.int .u64 (s : Int), .int .u64 (g : Int), .int .u64 (k : Int)] 75 from hg7 ▸ hW2 ▸ BoxAt.new w1 _ _)
      have HL2 := hide_ ((HL.out.below hb1).below hb2)
      have HR2 := hide_ ((HR.out.below hb1).below hb2)
      have HB2 := hide_ ((HB.out.trans (hb1.mono HB.out.size)).trans (hb2.mono (Nat.le_trans HB.out.size hb1.size)))
      have HW2 := hide_ hW2
      have HG7 := hide_ hg7
      clear hW2 hg7 hb1 hb2 HC
      go_upto_region 7 with fail
      rw [HW2.out, HG7.out]
      clear HW2
      have cn := HN.out.cell
      have cl := HL2.out.cell
      go_wp2
      go_roundw
      case rel => exact ⟨_, .inr (.inr ⟨rfl, rfl, rfl⟩), HL2, HR2, HB2⟩
      case measure => simp [intOf]
    · have cl := HL.out.cell
      have cr := HR.out.cell
      have fr := HR.out.free9
      go_wp2
      have HE := hide_ (box3 HR.out (.int .u64 (t : Int)) (.int .u64 (g : Int)) (.int .u64 (k : Int)))
      have q0 := HE.out.cell 0
      have q1 := HE.out.cell 1
      have q2 := HE.out.cell 2
      simp only [List.getElem?_toArray, List.getElem?_cons_zero, List.getElem?_cons_succ] at q0 q1 q2
      refine bodyPost_ret (v := .tuple #[seV t g k, .int .i64 0]) (by simp [results, Try.results25, go_sem, q0, q1, q2, seV]) rfl ?_
      exact ⟨rfl, HB.out.grown (grown3 wr gr _ _ _) HB.out.size (fun q e => by cases e; rw [HGR.out]; exact Nat.le_refl _)⟩

set_option maxRecDepth 100000 in
set_option maxHeartbeats 1600000 in
theorem lastSeal_zero {w : World} {L : Lay} {D : Dk} (h : DiskAt w L D) (hc : D.calm) (hw : D.waits = []) (h2 : 2 ≤ D.c) (hs0 : D.kept 0 = List.replicate D.n 0) (hs1 : D.kept 1 = List.replicate D.n 0) :
    Calls Try.prog 25 #[.pointer (some ⟨L.b, 0, none⟩)] w fun e w' => e = .returned (.tuple #[seV 0 0 0, .int .i64 0]) ∧ Below w.heap.size w w' := by
  obtain ⟨W0, hW0⟩ : ∃ W, (w.alloc (.cells #[.int .u64 0, .int .u64 0, .int .u64 0] 75)).alloc (.cells #[.int .u64 0, .int .u64 0, .int .u64 0] 75) = W := ⟨_, rfl⟩
  have hb0 : Below w.heap.size w W0 := hW0 ▸ ((Below.refl _ _).alloc (Nat.le_refl _) _).alloc (by simp) _
  have HR0 := hide_ (show BoxAt W0 w.heap.size #[.int .u64 0, .int .u64 0, .int .u64 0] 75 from hW0 ▸ (BoxAt.new w _ _).alloc _)
  have HL0 := hide_ (show BoxAt W0 (w.heap.size + 1) #[.int .u64 0, .int .u64 0, .int .u64 0] 75 from by
    have := BoxAt.new (w.alloc (.cells #[.int .u64 0, .int .u64 0, .int .u64 0] 75)) #[.int .u64 0, .int .u64 0, .int .u64 0] 75
    rw [hW0] at this
    simpa using this)
  have HB0 := hide_ hb0
  have HW0 := hide_ hW0
  obtain ⟨bc, hbc⟩ : ∃ bc, L.b = bc := ⟨_, rfl⟩
  have HG0 := hide_ (show ∀ u, Below w.heap.size w u → Calls Try.prog 48 #[.pointer (some ⟨L.b, 0, none⟩), .int .i64 0] u fun e w' => e = .returned (.tuple #[.agg #[.int .u64 0, .int .u64 0, .int .u64 0], .bool false]) ∧ Below u.heap.size u w' from fun u hu => getSeal_zero (h.below hu) hc hw 0 hs0 (by omega))
  have HG1 := hide_ (show ∀ u, Below w.heap.size w u → Calls Try.prog 48 #[.pointer (some ⟨L.b, 0, none⟩), .int .i64 1] u fun e w' => e = .returned (.tuple #[.agg #[.int .u64 0, .int .u64 0, .int .u64 0], .bool false]) ∧ Below u.heap.size u w' from fun u hu => getSeal_zero (h.below hu) hc hw 1 hs1 (by omega))
  have hz : secs D.kept 0 2 = List.replicate (2 * D.n) 0 := by rw [secs_succ, secs_one, hs0, hs1, List.replicate_append_replicate]; congr 1; omega
  have HRD := hide_ (show ∀ u, Below w.heap.size w u → Calls Try.prog 50 #[.pointer (some ⟨L.b, 0, none⟩), .int .i64 0, .int .i64 2] u (Puts u (List.replicate (2 * D.n) 0)) from fun u hu => by
    have := read_any (h.below hu) hc hw 0 2 (by omega)
    rwa [hz] at this)
  have hn2 := h.ok.n2
  rw [hbc] at HG0 HG1 HRD
  rw [hbc]
  clear hbc h2 hs0 hs1 hz
  obtain ⟨gr, hgr⟩ : ∃ g, w.heap.size = g := ⟨_, rfl⟩
  have HGR := hide_ hgr
  rw [hgr] at HR0 HL0
  clear hgr hb0 hW0 h hc hw
  go_enter Try.func25, Try.ntmps25
  go_upto_region 2 with fail
  rw [HW0.out, HGR.out]
  clear HW0
  go_wp2
  go_loopw [5, 9] (fun v i wr => (i = .int .i64 0 ∨ i = .int .i64 1 ∨ i = .int .i64 2) ∧ v = .bool false ∧ Hid (BoxAt wr (gr + 1) #[.int .u64 0, .int .u64 0, .int .u64 0] 75) ∧ Hid (BoxAt wr gr #[.int .u64 0, .int .u64 0, .int .u64 0] 75) ∧ Hid (Below w.heap.size w wr)) (fun _ i _ => 2 - (intOf i).toNat)
  case atStart => exact ⟨.inl rfl, rfl, HL0, HR0, HB0⟩
  case round =>
    obtain ⟨hcase, rfl, HL, HR, HB⟩ := hrel
    rcases hcase with rfl | rfl | rfl
    · have HC := hide_ (HG0.out wr HB.out)
      go_upto_region 6 with fail
      go_wp2_with fail
      with_reducible refine HC.out.mono ?_
      rintro _ w1 ⟨rfl, hb1⟩
      have hb2 : Below w1.heap.size w1 (w1.alloc (.cells #[.int .u64 0, .int .u64 0, .int .u64 0] 75)) := (Below.refl _ _).alloc (Nat.le_refl _) _
      have HL2 := hide_ ((HL.out.below hb1).below hb2)
      have HR2 := hide_ ((HR.out.below hb1).below hb2)
      have HB2 := hide_ ((HB.out.trans (hb1.mono HB.out.size)).trans (hb2.mono (Nat.le_trans HB.out.size hb1.size)))
      clear hb1 hb2 HC
      go_wp2
      go_roundw
      case rel => exact ⟨.inr (.inl rfl), rfl, HL2, HR2, HB2⟩
      case measure => simp [intOf]
    · have HC := hide_ (HG1.out wr HB.out)
      go_upto_region 6 with fail
      go_wp2_with fail
      with_reducible refine HC.out.mono ?_
      rintro _ w1 ⟨rfl, hb1⟩
      have hb2 : Below w1.heap.size w1 (w1.alloc (.cells #[.int .u64 0, .int .u64 0, .int .u64 0] 75)) := (Below.refl _ _).alloc (Nat.le_refl _) _
      have HL2 := hide_ ((HL.out.below hb1).below hb2)
      have HR2 := hide_ ((HR.out.below hb1).below hb2)
      have HB2 := hide_ ((HB.out.trans (hb1.mono HB.out.size)).trans (hb2.mono (Nat.le_trans HB.out.size hb1.size)))
      clear hb1 hb2 HC
      go_wp2
      go_roundw
      case rel => exact ⟨.inr (.inr rfl), rfl, HL2, HR2, HB2⟩
      case measure => simp [intOf]
    · have HC := hide_ (HRD.out wr HB.out)
      unfold Puts at HC
      rw [zs_len] at HC
      obtain ⟨z, hz⟩ : ∃ z, 2 * D.n = z := ⟨_, rfl⟩
      rw [hz] at HC
      have hz2 : z ≤ 1024 := by omega
      clear hz
      go_wp2_with (first | (go_at_call 50; with_reducible refine HC.out.mono ?_; rintro _ w1 ⟨A1, c1, rfl, hown1, hb1⟩; (have HL1 := hide_ (HL.out.below hb1)); (have HR1 := hide_ (HR.out.below hb1)); (have HB1 := hide_ (HB.out.trans (hb1.mono HB.out.size))); (have HIZ := hide_ (isZero_any z w1.heap.size A1 c1 w1 (by omega) (Sees.own hown1) (Nat.le_refl _))); clear hown1 hb1) | (go_at_call 49; with_reducible refine HIZ.out.mono ?_; rintro _ w2 ⟨rfl, hb2⟩; (have HL2 := hide_ (HL1.out.below hb2)); (have HR2 := hide_ (HR1.out.below hb2)); (have HB2 := hide_ (HB1.out.trans (hb2.mono HB1.out.size))); clear hb2; (have cl := HL2.out.cell); (have cr := HR2.out.cell); (have fr := HR2.out.free9)))
      have HE := hide_ (box3 HR2.out (.int .u64 0) (.int .u64 0) (.int .u64 0))
      have q0 := HE.out.cell 0
      have q1 := HE.out.cell 1
      have q2 := HE.out.cell 2
      simp only [List.getElem?_toArray, List.getElem?_cons_zero, List.getElem?_cons_succ] at q0 q1 q2
      refine bodyPost_ret (v := .tuple #[seV 0 0 0, .int .i64 0]) (by simp [results, Try.results25, go_sem, q0, q1, q2, seV]) rfl ?_
      exact ⟨rfl, HB2.out.grown (grown3 w2 gr _ _ _) HB2.out.size (fun q e => by cases e; rw [HGR.out]; exact Nat.le_refl _)⟩
end Go.Proofs.Ytecbpmnolgkllaa
