/-
  Contracts of the disk's Sync and Back.
-/
import Derived.Test.YtcpoppfifadbiaaDecide
namespace Go.Proofs.Ytcpoppfifadbiaa
open Go.RowKit

section
variable {w w0 w' : World} {L : Lay} {D : Dk}
theorem Does.open12 (h : Does L w0 w D) : ∃ L', L'.b = L.b ∧ DiskAt w L' D ∧ ∀ w' D', Does L' w w' D' → Does L w0 w' D' := by
  obtain ⟨L', eb, hd, hc, hs⟩ := h
  exact ⟨L', eb, hd, fun w' D' h2 => Does.trans hc hs eb h2⟩
theorem decide_at {L' : Lay} (eb : L'.b = L.b) (h : DiskAt w L' D) (keep : Nat) (torn : Bool) (hk : keep ≤ D.waits.length) :
    Calls Try.prog 38 #[.pointer (some ⟨L.b, 0, none⟩), .int .i64 (keep : Int), .bool torn] w fun e w' => e = .returned (.tuple #[]) ∧ Does L' w w' (decideD D keep torn) := by
  rw [← eb]
  exact decide_any h keep torn hk

/-- what 'Sync' leaves -/
def Syncs (L : Lay) (D : Dk) (w : World) (e : Ending) (w' : World) : Prop := e = .returned (.int .i64 (serrD D)) ∧ Does L w w' (syncD D)

theorem Sync_any (h : DiskAt w L D) : Calls Try.prog 31 #[.pointer (some ⟨L.b, 0, none⟩)] w (Syncs L D w) := by
  have H := hide_ h
  by_cases ht : D.on = true
  · have HA := hide_ (show Calls Try.prog 57 #[.pointer (some ⟨L.b, 0, none⟩)] w fun e w' => e = .returned (.int .i64 0) ∧ w = w' from by
      have := answers_any h
      rwa [if_pos ht] at this)
    by_cases hbu : burnsD D = true
    · have HB := hide_ (show Calls Try.prog 55 #[.pointer (some ⟨L.b, 0, none⟩)] w fun e w' => e = .returned (.int .i64 8) ∧ Does L w w' (burnD D) from by
        have := burn_any h
        rwa [if_pos hbu] at this)
      have e1 : serrD D = 8 := by rw [serrD, if_pos ht, if_pos hbu]
      have e2 : syncD D = burnD D := by rw [syncD, if_pos ht, if_pos hbu]
      have E1 := hide_ e1
      have E2 := hide_ e2
      clear h ht hbu e1 e2
      go_enter Try.func31, Try.ntmps31
      go_wp2_with (first | (go_at_call 57; refine HA.out.mono ?_; rintro e w1 ⟨rfl, rfl⟩) | (go_at_call 55; refine HB.out.mono ?_; rintro e w1 ⟨rfl, hd⟩))
      go_ret
      exact ⟨by rw [E1.out]; rfl, by rw [E2.out]; exact hd⟩
    · have HB := hide_ (show Calls Try.prog 55 #[.pointer (some ⟨L.b, 0, none⟩)] w fun e w' => e = .returned (.int .i64 0) ∧ Does L w w' (burnD D) from by
        have := burn_any h
        rwa [if_neg hbu] at this)
      have e1 : serrD D = 0 := by rw [serrD, if_pos ht, if_neg hbu]
      have e2 : syncD D = decideD (burnD D) D.waits.length false := by rw [syncD, if_pos ht, if_neg hbu]
      have ew := burnD_waits D
      have E1 := hide_ e1
      have E2 := hide_ e2
      have EW := hide_ ew
      clear h ht hbu e1 e2 ew
      go_enter Try.func31, Try.ntmps31
      go_wp2_with (first | (go_at_call 57; refine HA.out.mono ?_; rintro e w1 ⟨rfl, rfl⟩) | (go_at_call 55; refine HB.out.mono ?_; rintro e w1 ⟨rfl, hd⟩; (obtain ⟨L', eb, hd1, ht1⟩ := hd.open12); (have q3 := hd1.c3); (rw [eb, EW.out] at q3); (have HD := hide_ (decide_at eb hd1 D.waits.length false (by rw [EW.out]; exact Nat.le_refl _))); (have HT := hide_ ht1); clear hd hd1 ht1) | (go_at_call 38; refine HD.out.mono ?_; rintro e w2 ⟨rfl, hd2⟩))
      go_ret
      exact ⟨by rw [E1.out]; rfl, by rw [E2.out]; exact HT.out _ _ hd2⟩
  · have HA := hide_ (show Calls Try.prog 57 #[.pointer (some ⟨L.b, 0, none⟩)] w fun e w' => e = .returned (.int .i64 8) ∧ w = w' from by
      have := answers_any h
      rwa [if_neg ht] at this)
    have e1 : serrD D = 8 := by rw [serrD, if_neg ht]
    have e2 : syncD D = D := by rw [syncD, if_neg ht]
    have E1 := hide_ e1
    have E2 := hide_ e2
    clear h ht e1 e2
    go_enter Try.func31, Try.ntmps31
    go_wp2_with (go_at_call 57; refine HA.out.mono ?_; rintro e w1 ⟨rfl, rfl⟩)
    go_ret
    exact ⟨by rw [E1.out]; rfl, by rw [E2.out]; exact Does.of_stay H.out (Below.refl _ _)⟩

set_option maxRecDepth 100000 in
theorem Back_any (h : DiskAt w L D) (keep : Int) (torn : Bool) : Calls Try.prog 15 #[.pointer (some ⟨L.b, 0, none⟩), .int .i64 keep, .bool torn] w fun e w' => e = .returned (.tuple #[]) ∧ Does L w w' (backD D keep torn) := by
  have HM := hide_ (isMade_any h)
  have HF := hide_ (Fall_any h)
  obtain ⟨k1, hk1⟩ : ∃ k, max keep 0 = k := ⟨_, rfl⟩
  obtain ⟨k2, hk2⟩ : ∃ k, min keep.toNat D.waits.length = k := ⟨_, rfl⟩
  have hmax : ∀ ats ty (u : World), (Builtin.max_ ats ty #[.int .i64 keep, .int .i64 0]).run Try.prog u = .ok (.int .i64 k1) u := fun ats ty u => by
    rw [run_max_int2, ← hk1]
    have : (if (0 : Int) > keep then 0 else keep) = max keep 0 := by split <;> omega
    rw [this]
  have hmin : ∀ ats ty (u : World), (Builtin.min_ ats ty #[.int .i64 k1, .int .i64 (D.waits.length : Int)]).run Try.prog u = .ok (.int .i64 (k2 : Int)) u := fun ats ty u => by
    rw [run_min_int2]
    have : (if (D.waits.length : Int) < k1 then (D.waits.length : Int) else k1) = (k2 : Int) := by split <;> omega
    rw [this]
  have EW := hide_ (fallD_waits D)
  have HK := hide_ (show k2 ≤ (fallD D).waits.length by rw [fallD_waits]; omega)
  have E2 := hide_ (show backD D keep torn = { decideD (fallD D) k2 torn with hf := false, on := true } by rw [backD, hk2])
  have H := hide_ h
  clear h hk1 hk2
  go_enter Try.func15, Try.ntmps15
  go_wp2_with (first | (go_at_call 37; refine HM.out.mono ?_; rintro e w1 ⟨rfl, rfl⟩) | (go_at_call 34; refine HF.out.mono ?_; rintro e w1 ⟨rfl, hd⟩; (obtain ⟨L', eb, hd1, ht1⟩ := hd.open12); (have q3 := hd1.c3); (rw [eb, EW.out] at q3); (have HD := hide_ (decide_at eb hd1 k2 torn HK.out)); (have HT := hide_ ht1); clear hd hd1 ht1) | (go_at_call 38; refine HD.out.mono ?_; rintro e w2 ⟨rfl, hd2⟩; (obtain ⟨L2, eb2, hd3, ht3⟩ := (HT.out _ _ hd2).open12); (have r6 := hd3.c6); (have r4 := hd3.c4); (have g6 := hd3.free 6); (have g4 := hd3.free 4); (rw [eb2] at r6 r4 g6 g4); (have HD3 := hide_ hd3); (have HT3 := hide_ ht3); (have EB2 := hide_ eb2); clear hd2 hd3 ht3 eb2))
  refine ⟨rfl, _, results_none rfl _ _ _, rfl, ?_⟩
  rw [E2.out]
  refine HT3.out _ _ ?_
  have hok := HD3.out.ok
  have hg : w2.grownBy ((w2.setCell ⟨L.b, 6, none⟩ (.bool false)).setCell ⟨L.b, 4, none⟩ (.bool true)) (some L2.b) := by
    rw [EB2.out]
    exact grown_set (grown_set (World.grownBy.refl w2 _) _ _) _ _
  refine HD3.out.turns ?_ hg rfl rfl rfl rfl ⟨hok.n1, hok.n2, hok.c1, hok.c2, hok.k, hok.ws, hok.wn, hok.l1, hok.l2⟩
  have hb := HD3.out.box
  rw [EB2.out] at hb ⊢
  exact heap_set 4 _ (heap_set 6 _ hb)
end
end Go.Proofs.Ytcpoppfifadbiaa
