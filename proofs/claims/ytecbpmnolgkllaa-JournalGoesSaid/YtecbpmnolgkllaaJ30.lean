/-
  Texts of this claim put together: Sec8.
-/
import Derived.Test.YtecbpmnolgkllaaJ29
/-
  Contracts of the disk's Sync and Back.
-/
namespace Go.Proofs.Ytecbpmnolgkllaa
open Go.RowKit

section
variable {w w0 w' : World} {L : Lay} {D : Dk}
theorem Does.open12 (h : Does L w0 w D) : ∃ L', L'.b = L.b ∧ DiskAt w L' D ∧ ∀ w' D', Does L' w w' D' → Does L w0 w' D' := by
  obtain ⟨L', eb, hd, hc, hs⟩ := h
  exact ⟨L', eb, hd, fun w' D' h2 => Does.trans hc hs eb h2⟩
theorem decide_at {L' : Lay} (eb : L'.b = L.b) (h : DiskAt w L' D) (keep : Nat) (torn : Bool) (hk : keep ≤ D.waits.length) :
    Calls Try.prog 140 #[.pointer (some ⟨L.b, 0, none⟩), .int .i64 (keep : Int), .bool torn] w fun e w' => e = .returned (.tuple #[]) ∧ Does L' w w' (decideD D keep torn) := by
  rw [← eb]
  exact decide_any h keep torn hk

/-- what 'Sync' leaves -/
def Syncs (L : Lay) (D : Dk) (w : World) (e : Ending) (w' : World) : Prop := e = .returned (.int .i64 (serrD D)) ∧ Does L w w' (syncD D)

theorem Sync_any (h : DiskAt w L D) : Calls Try.prog 116 #[.pointer (some ⟨L.b, 0, none⟩)] w (Syncs L D w) := by
  have H := hide_ h
  by_cases ht : D.on = true
  · have HA := hide_ (show Calls Try.prog 133 #[.pointer (some ⟨L.b, 0, none⟩)] w fun e w' => e = .returned (.int .i64 0) ∧ w = w' from by
      have := answers_any h
      rwa [if_pos ht] at this)
    by_cases hbu : burnsD D = true
    · have HB := hide_ (show Calls Try.prog 139 #[.pointer (some ⟨L.b, 0, none⟩)] w fun e w' => e = .returned (.int .i64 8) ∧ Does L w w' (burnD D) from by
        have := burn_any h
        rwa [if_pos hbu] at this)
      have e1 : serrD D = 8 := by rw [serrD, if_pos ht, if_pos hbu]
      have e2 : syncD D = burnD D := by rw [syncD, if_pos ht, if_pos hbu]
      have E1 := hide_ e1
      have E2 := hide_ e2
      clear h ht hbu e1 e2
      go_enter Try.func116, Try.ntmps116
      go_wp2_with (first | (go_at_call 133; refine HA.out.mono ?_; rintro e w1 ⟨rfl, rfl⟩) | (go_at_call 139; refine HB.out.mono ?_; rintro e w1 ⟨rfl, hd⟩))
      go_ret
      exact ⟨by rw [E1.out]; rfl, by rw [E2.out]; exact hd⟩
    · have HB := hide_ (show Calls Try.prog 139 #[.pointer (some ⟨L.b, 0, none⟩)] w fun e w' => e = .returned (.int .i64 0) ∧ Does L w w' (burnD D) from by
        have := burn_any h
        rwa [if_neg hbu] at this)
      have e1 : serrD D = 0 := by rw [serrD, if_pos ht, if_neg hbu]
      have e2 : syncD D = decideD (burnD D) D.waits.length false := by rw [syncD, if_pos ht, if_neg hbu]
      have ew := burnD_waits D
      have E1 := hide_ e1
      have E2 := hide_ e2
      have EW := hide_ ew
      clear h ht hbu e1 e2 ew
      go_enter Try.func116, Try.ntmps116
      go_wp2_with (first | (go_at_call 133; refine HA.out.mono ?_; rintro e w1 ⟨rfl, rfl⟩) | (go_at_call 139; refine HB.out.mono ?_; rintro e w1 ⟨rfl, hd⟩; (obtain ⟨L', eb, hd1, ht1⟩ := hd.open12); (have q3 := hd1.c3); (rw [eb, EW.out] at q3); (have HD := hide_ (decide_at eb hd1 D.waits.length false (by rw [EW.out]; exact Nat.le_refl _))); (have HT := hide_ ht1); clear hd hd1 ht1) | (go_at_call 140; refine HD.out.mono ?_; rintro e w2 ⟨rfl, hd2⟩))
      go_ret
      exact ⟨by rw [E1.out]; rfl, by rw [E2.out]; exact HT.out _ _ hd2⟩
  · have HA := hide_ (show Calls Try.prog 133 #[.pointer (some ⟨L.b, 0, none⟩)] w fun e w' => e = .returned (.int .i64 8) ∧ w = w' from by
      have := answers_any h
      rwa [if_neg ht] at this)
    have e1 : serrD D = 8 := by rw [serrD, if_neg ht]
    have e2 : syncD D = D := by rw [syncD, if_neg ht]
    have E1 := hide_ e1
    have E2 := hide_ e2
    clear h ht e1 e2
    go_enter Try.func116, Try.ntmps116
    go_wp2_with (go_at_call 133; refine HA.out.mono ?_; rintro e w1 ⟨rfl, rfl⟩)
    go_ret
    exact ⟨by rw [E1.out]; rfl, by rw [E2.out]; exact Does.of_stay H.out (Below.refl _ _)⟩

end
end Go.Proofs.Ytecbpmnolgkllaa