/-
  Contracts of the disk's small functions.
-/
import Derived.Test.YtimgmpmibempaaaDk
import Derived.WalkSpells
import Derived.Outline
namespace Go.Proofs.Ytimgmpmibempaaa
open Go.RowKit

section
variable {w : World} {L : Lay} {D : Dk}
theorem DiskAt.c0 (h : DiskAt w L D) : w.cell? ⟨L.b, 0, none⟩ = some (.int .i64 (D.n : Int)) := h.cell 0
theorem DiskAt.c1 (h : DiskAt w L D) : w.cell? ⟨L.b, 1, none⟩ = some (.int .i64 (D.c : Int)) := h.cell 1
theorem DiskAt.c2 (h : DiskAt w L D) : w.cell? ⟨L.b, 2, none⟩ = some (.map (some L.m)) := h.cell 2
theorem DiskAt.c3 (h : DiskAt w L D) : w.cell? ⟨L.b, 3, none⟩ = some (.slice L.A D.waits.length L.cp) := h.cell 3
theorem DiskAt.c4 (h : DiskAt w L D) : w.cell? ⟨L.b, 4, none⟩ = some (.bool D.on) := h.cell 4
theorem DiskAt.c5 (h : DiskAt w L D) : w.cell? ⟨L.b, 5, none⟩ = some (.int .u64 D.falls) := h.cell 5
theorem DiskAt.c6 (h : DiskAt w L D) : w.cell? ⟨L.b, 6, none⟩ = some (.bool D.hf) := h.cell 6
theorem DiskAt.c7 (h : DiskAt w L D) : w.cell? ⟨L.b, 7, none⟩ = some (.int .i64 D.left) := h.cell 7
end

theorem Size_nil (w : World) : Calls Try.prog 10 #[.pointer none] w fun e w' => e = .returned (.int .i64 0) ∧ w = w' := by
  go_enter Try.func10, Try.ntmps10
  go_wp2
  go_ret
  exact ⟨rfl, rfl⟩

theorem Count_nil (w : World) : Calls Try.prog 11 #[.pointer none] w fun e w' => e = .returned (.int .i64 0) ∧ w = w' := by
  go_enter Try.func11, Try.ntmps11
  go_wp2
  go_ret
  exact ⟨rfl, rfl⟩

theorem Falls_nil (w : World) : Calls Try.prog 15 #[.pointer none] w fun e w' => e = .returned (.int .u64 0) ∧ w = w' := by
  go_enter Try.func15, Try.ntmps15
  go_wp2
  go_ret
  exact ⟨rfl, rfl⟩

theorem Waits_nil (w : World) : Calls Try.prog 16 #[.pointer none] w fun e w' => e = .returned (.int .i64 0) ∧ w = w' := by
  go_enter Try.func16, Try.ntmps16
  go_wp2
  go_ret
  exact ⟨rfl, rfl⟩

theorem IsOn_nil (w : World) : Calls Try.prog 14 #[.pointer none] w fun e w' => e = .returned (.bool false) ∧ w = w' := by
  go_enter Try.func14, Try.ntmps14
  go_wp2
  go_ret
  exact ⟨rfl, rfl⟩

theorem isMade_nil (w : World) : Calls Try.prog 30 #[.pointer none] w fun e w' => e = .returned (.bool false) ∧ w = w' := by
  go_enter Try.func30, Try.ntmps30
  go_wp2_with (refine (Count_nil _).mono ?_; rintro e w1 ⟨rfl, rfl⟩)
  go_ret
  exact ⟨rfl, rfl⟩

theorem answers_nil (w : World) : Calls Try.prog 38 #[.pointer none] w fun e w' => e = .returned (.int .i64 1) ∧ w = w' := by
  go_enter Try.func38, Try.ntmps38
  go_wp2_with (refine (isMade_nil _).mono ?_; rintro e w1 ⟨rfl, rfl⟩)
  go_ret
  exact ⟨rfl, rfl⟩

theorem reaches_nil (w : World) (i : Value) : Calls Try.prog 34 #[.pointer none, i] w fun e w' => e = .returned (.int .i64 1) ∧ w = w' := by
  go_enter Try.func34, Try.ntmps34
  go_wp2_with (refine (answers_nil _).mono ?_; rintro e w1 ⟨rfl, rfl⟩)
  go_ret
  exact ⟨rfl, rfl⟩

theorem Read_nil (w : World) (i : Value) : Calls Try.prog 19 #[.pointer none, i] w fun e w' => e = .returned (.tuple #[.slice none 0 0, .int .i64 1]) ∧ w = w' := by
  go_enter Try.func19, Try.ntmps19
  go_wp2_with (refine (reaches_nil _ _).mono ?_; rintro e w1 ⟨rfl, rfl⟩)
  go_ret2
  exact ⟨rfl, rfl⟩

theorem Write_nil (w : World) (i b : Value) : Calls Try.prog 20 #[.pointer none, i, b] w fun e w' => e = .returned (.int .i64 1) ∧ w = w' := by
  go_enter Try.func20, Try.ntmps20
  go_wp2_with (refine (reaches_nil _ _).mono ?_; rintro e w1 ⟨rfl, rfl⟩)
  go_ret
  exact ⟨rfl, rfl⟩

theorem Sync_nil (w : World) : Calls Try.prog 21 #[.pointer none] w fun e w' => e = .returned (.int .i64 1) ∧ w = w' := by
  go_enter Try.func21, Try.ntmps21
  go_wp2_with (refine (answers_nil _).mono ?_; rintro e w1 ⟨rfl, rfl⟩)
  go_ret
  exact ⟨rfl, rfl⟩

theorem Fuse_nil (w : World) (i : Value) : Calls Try.prog 22 #[.pointer none, i] w fun e w' => e = .returned (.tuple #[]) ∧ w = w' := by
  go_enter Try.func22, Try.ntmps22
  go_wp2_with (refine (isMade_nil _).mono ?_; rintro e w1 ⟨rfl, rfl⟩)
  refine bodyPost_ret (results_none rfl _ _ _) rfl ?_
  exact ⟨rfl, rfl⟩

theorem Fall_nil (w : World) : Calls Try.prog 23 #[.pointer none] w fun e w' => e = .returned (.tuple #[]) ∧ w = w' := by
  go_enter Try.func23, Try.ntmps23
  go_wp2_with (refine (IsOn_nil _).mono ?_; rintro e w1 ⟨rfl, rfl⟩)
  refine bodyPost_ret (results_none rfl _ _ _) rfl ?_
  exact ⟨rfl, rfl⟩

theorem Back_nil (w : World) (i t : Value) : Calls Try.prog 17 #[.pointer none, i, t] w fun e w' => e = .returned (.tuple #[]) ∧ w = w' := by
  go_enter Try.func17, Try.ntmps17
  go_wp2_with (refine (isMade_nil _).mono ?_; rintro e w1 ⟨rfl, rfl⟩)
  refine bodyPost_ret (results_none rfl _ _ _) rfl ?_
  exact ⟨rfl, rfl⟩

theorem Spoil_nil (w : World) (i j b : Value) : Calls Try.prog 24 #[.pointer none, i, j, b] w fun e w' => e = .returned (.int .i64 1) ∧ w = w' := by
  go_enter Try.func24, Try.ntmps24
  go_wp2_with (refine (isMade_nil _).mono ?_; rintro e w1 ⟨rfl, rfl⟩)
  go_ret
  exact ⟨rfl, rfl⟩

section
variable {w : World} {L : Lay} {D : Dk}
theorem Size_any (h : DiskAt w L D) : Calls Try.prog 10 #[.pointer (some ⟨L.b, 0, none⟩)] w fun e w' => e = .returned (.int .i64 (D.n : Int)) ∧ w = w' := by
  have c0 := h.c0
  clear h
  go_enter Try.func10, Try.ntmps10
  go_wp2
  go_ret
  exact ⟨rfl, rfl⟩

theorem Count_any (h : DiskAt w L D) : Calls Try.prog 11 #[.pointer (some ⟨L.b, 0, none⟩)] w fun e w' => e = .returned (.int .i64 (D.c : Int)) ∧ w = w' := by
  have c0 := h.c1
  clear h
  go_enter Try.func11, Try.ntmps11
  go_wp2
  go_ret
  exact ⟨rfl, rfl⟩

theorem Falls_any (h : DiskAt w L D) : Calls Try.prog 15 #[.pointer (some ⟨L.b, 0, none⟩)] w fun e w' => e = .returned (.int .u64 D.falls) ∧ w = w' := by
  have c0 := h.c5
  clear h
  go_enter Try.func15, Try.ntmps15
  go_wp2
  go_ret
  exact ⟨rfl, rfl⟩

theorem Waits_any (h : DiskAt w L D) : Calls Try.prog 16 #[.pointer (some ⟨L.b, 0, none⟩)] w fun e w' => e = .returned (.int .i64 (D.waits.length : Int)) ∧ w = w' := by
  have c0 := h.c3
  clear h
  go_enter Try.func16, Try.ntmps16
  go_wp2
  go_ret
  exact ⟨rfl, rfl⟩

theorem IsOn_any (h : DiskAt w L D) : Calls Try.prog 14 #[.pointer (some ⟨L.b, 0, none⟩)] w fun e w' => e = .returned (.bool D.on) ∧ w = w' := by
  have c0 := h.c4
  clear h
  go_enter Try.func14, Try.ntmps14
  go_wp2
  go_ret
  exact ⟨rfl, rfl⟩

theorem isMade_any (h : DiskAt w L D) : Calls Try.prog 30 #[.pointer (some ⟨L.b, 0, none⟩)] w fun e w' => e = .returned (.bool true) ∧ w = w' := by
  have H := hide_ h
  have hc : 0 < D.c := h.ok.c1
  clear h
  go_enter Try.func30, Try.ntmps30
  go_wp2_with (refine (Count_any H.out).mono ?_; rintro e w1 ⟨rfl, rfl⟩)
  go_ret
  exact ⟨rfl, rfl⟩

theorem answers_any (h : DiskAt w L D) : Calls Try.prog 38 #[.pointer (some ⟨L.b, 0, none⟩)] w fun e w' => e = .returned (.int .i64 (if D.on = true then 0 else 8)) ∧ w = w' := by
  have H := hide_ h
  have c4 := h.c4
  clear h
  obtain ⟨t, ht⟩ : ∃ t, D.on = t := ⟨_, rfl⟩
  rw [ht] at c4 ⊢
  clear ht
  cases t <;> simp only [if_true, if_false, Bool.false_eq_true]
  all_goals
    go_enter Try.func38, Try.ntmps38
    go_wp2_with (refine (isMade_any H.out).mono ?_; rintro e w1 ⟨rfl, rfl⟩)
    go_ret
    exact ⟨rfl, rfl⟩

theorem isBelow_any (i m : Int) (w : World) : Calls Try.prog 39 #[.int .i64 i, .int .i64 m] w fun e w' => e = .returned (.bool (decide (0 ≤ i ∧ i < m))) ∧ w = w' := by
  by_cases h0 : 0 ≤ i
  · by_cases h1 : i < m
    · have e : decide (0 ≤ i ∧ i < m) = true := decide_eq_true ⟨h0, h1⟩
      rw [e]
      clear e
      go_enter Try.func39, Try.ntmps39
      go_wp2
      go_ret
      exact ⟨rfl, rfl⟩
    · have e : decide (0 ≤ i ∧ i < m) = false := decide_eq_false (by omega)
      rw [e]
      clear e
      go_enter Try.func39, Try.ntmps39
      go_wp2
      go_ret
      exact ⟨rfl, rfl⟩
  · have e : decide (0 ≤ i ∧ i < m) = false := decide_eq_false (by omega)
    rw [e]
    clear e
    go_enter Try.func39, Try.ntmps39
    go_wp2
    go_ret
    exact ⟨rfl, rfl⟩

theorem reaches_any (h : DiskAt w L D) (i : Int) : Calls Try.prog 34 #[.pointer (some ⟨L.b, 0, none⟩), .int .i64 i] w fun e w' => e = .returned (.int .i64 (reachD D i)) ∧ w = w' := by
  have H := hide_ h
  have c1 := h.c1
  clear h
  unfold reachD
  by_cases ht : D.on = true
  · rw [if_pos ht]
    have HA := hide_ (show Calls Try.prog 38 #[.pointer (some ⟨L.b, 0, none⟩)] w fun e w' => e = .returned (.int .i64 0) ∧ w = w' from by
      have := answers_any H.out
      rwa [if_pos ht] at this)
    clear ht
    by_cases hi : 0 ≤ i ∧ i < D.c
    · rw [if_pos hi]
      have HI := hide_ (show Calls Try.prog 39 #[.int .i64 i, .int .i64 (D.c : Int)] w fun e w' => e = .returned (.bool true) ∧ w = w' from by
        have := isBelow_any i D.c w
        rwa [decide_eq_true hi] at this)
      clear hi
      go_enter Try.func34, Try.ntmps34
      go_wp2_with (first | (go_at_call 38; refine HA.out.mono ?_; rintro e w1 ⟨rfl, rfl⟩) | (go_at_call 39; refine HI.out.mono ?_; rintro e w1 ⟨rfl, rfl⟩))
      go_ret
      exact ⟨rfl, rfl⟩
    · rw [if_neg hi]
      have HI := hide_ (show Calls Try.prog 39 #[.int .i64 i, .int .i64 (D.c : Int)] w fun e w' => e = .returned (.bool false) ∧ w = w' from by
        have := isBelow_any i D.c w
        rwa [decide_eq_false hi] at this)
      clear hi
      go_enter Try.func34, Try.ntmps34
      go_wp2_with (first | (go_at_call 38; refine HA.out.mono ?_; rintro e w1 ⟨rfl, rfl⟩) | (go_at_call 39; refine HI.out.mono ?_; rintro e w1 ⟨rfl, rfl⟩))
      go_ret
      exact ⟨rfl, rfl⟩
  · rw [if_neg ht]
    have HA := hide_ (show Calls Try.prog 38 #[.pointer (some ⟨L.b, 0, none⟩)] w fun e w' => e = .returned (.int .i64 8) ∧ w = w' from by
      have := answers_any H.out
      rwa [if_neg ht] at this)
    clear ht
    go_enter Try.func34, Try.ntmps34
    go_wp2_with (go_at_call 38; refine HA.out.mono ?_; rintro e w1 ⟨rfl, rfl⟩)
    go_ret
    exact ⟨rfl, rfl⟩
end
end Go.Proofs.Ytimgmpmibempaaa
