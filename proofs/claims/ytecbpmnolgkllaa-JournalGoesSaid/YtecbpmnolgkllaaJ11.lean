/-
  Texts of this claim put together: Sec1.
-/
import Derived.Test.YtecbpmnolgkllaaJ10
import Derived.WalkSpells
import Derived.Outline
/-
  Contracts of the disk's small functions.
-/
namespace Go.Proofs.Ytecbpmnolgkllaa
open Go.RowKit

section
variable {w : World} {L : Lay} {D : Dk}
theorem DiskAt.c0 (h : DiskAt w L D) : w.cell? ⟨L.b, 0, none⟩ = some (.int .i64 (D.n : Int)) := h.cell 0
theorem DiskAt.c1 (h : DiskAt w L D) : w.cell? ⟨L.b, 1, none⟩ = some (.int .i64 (D.c : Int)) := h.cell 1
theorem DiskAt.c2 (h : DiskAt w L D) : w.cell? ⟨L.b, 2, none⟩ = some (.map (some L.m)) := h.cell 2
theorem DiskAt.c3 (h : DiskAt w L D) : w.cell? ⟨L.b, 3, none⟩ = some (.slice L.A D.waits.length L.cp) := h.cell 3
theorem DiskAt.c4 (h : DiskAt w L D) : w.cell? ⟨L.b, 4, none⟩ = some (.bool D.on) := h.cell 4
theorem DiskAt.c5 (h : DiskAt w L D) : w.cell? ⟨L.b, 5, none⟩ = some (.int .u64 D.falls) := h.cell 5
theorem DiskAt.c6 (h : DiskAt w L D) : w.cell? ⟨L.b, 6, none⟩ = some (.bool D.hf) := h.cell 6
theorem DiskAt.c7 (h : DiskAt w L D) : w.cell? ⟨L.b, 7, none⟩ = some (.int .i64 D.left) := h.cell 7
end

theorem Size_nil (w : World) : Calls Try.prog 31 #[.pointer none] w fun e w' => e = .returned (.int .i64 0) ∧ w = w' := by
  go_enter Try.func31, Try.ntmps31
  go_wp2
  go_ret
  exact ⟨rfl, rfl⟩

theorem Count_nil (w : World) : Calls Try.prog 23 #[.pointer none] w fun e w' => e = .returned (.int .i64 0) ∧ w = w' := by
  go_enter Try.func23, Try.ntmps23
  go_wp2
  go_ret
  exact ⟨rfl, rfl⟩

theorem IsOn_nil (w : World) : Calls Try.prog 24 #[.pointer none] w fun e w' => e = .returned (.bool false) ∧ w = w' := by
  go_enter Try.func24, Try.ntmps24
  go_wp2
  go_ret
  exact ⟨rfl, rfl⟩

theorem isMade_nil (w : World) : Calls Try.prog 147 #[.pointer none] w fun e w' => e = .returned (.bool false) ∧ w = w' := by
  go_enter Try.func147, Try.ntmps147
  go_wp2_with (refine (Count_nil _).mono ?_; rintro e w1 ⟨rfl, rfl⟩)
  go_ret
  exact ⟨rfl, rfl⟩

theorem answers_nil (w : World) : Calls Try.prog 133 #[.pointer none] w fun e w' => e = .returned (.int .i64 1) ∧ w = w' := by
  go_enter Try.func133, Try.ntmps133
  go_wp2_with (refine (isMade_nil _).mono ?_; rintro e w1 ⟨rfl, rfl⟩)
  go_ret
  exact ⟨rfl, rfl⟩

theorem reaches_nil (w : World) (i : Value) : Calls Try.prog 110 #[.pointer none, i] w fun e w' => e = .returned (.int .i64 1) ∧ w = w' := by
  go_enter Try.func110, Try.ntmps110
  go_wp2_with (refine (answers_nil _).mono ?_; rintro e w1 ⟨rfl, rfl⟩)
  go_ret
  exact ⟨rfl, rfl⟩

theorem Read_nil (w : World) (i : Value) : Calls Try.prog 83 #[.pointer none, i] w fun e w' => e = .returned (.tuple #[.slice none 0 0, .int .i64 1]) ∧ w = w' := by
  go_enter Try.func83, Try.ntmps83
  go_wp2_with (refine (reaches_nil _ _).mono ?_; rintro e w1 ⟨rfl, rfl⟩)
  go_ret2
  exact ⟨rfl, rfl⟩

theorem Write_nil (w : World) (i b : Value) : Calls Try.prog 115 #[.pointer none, i, b] w fun e w' => e = .returned (.int .i64 1) ∧ w = w' := by
  go_enter Try.func115, Try.ntmps115
  go_wp2_with (refine (reaches_nil _ _).mono ?_; rintro e w1 ⟨rfl, rfl⟩)
  go_ret
  exact ⟨rfl, rfl⟩

theorem Sync_nil (w : World) : Calls Try.prog 116 #[.pointer none] w fun e w' => e = .returned (.int .i64 1) ∧ w = w' := by
  go_enter Try.func116, Try.ntmps116
  go_wp2_with (refine (answers_nil _).mono ?_; rintro e w1 ⟨rfl, rfl⟩)
  go_ret
  exact ⟨rfl, rfl⟩

theorem Fall_nil (w : World) : Calls Try.prog 150 #[.pointer none] w fun e w' => e = .returned (.tuple #[]) ∧ w = w' := by
  go_enter Try.func150, Try.ntmps150
  go_wp2_with (refine (IsOn_nil _).mono ?_; rintro e w1 ⟨rfl, rfl⟩)
  refine bodyPost_ret (results_none rfl _ _ _) rfl ?_
  exact ⟨rfl, rfl⟩

section
variable {w : World} {L : Lay} {D : Dk}
theorem Size_any (h : DiskAt w L D) : Calls Try.prog 31 #[.pointer (some ⟨L.b, 0, none⟩)] w fun e w' => e = .returned (.int .i64 (D.n : Int)) ∧ w = w' := by
  have c0 := h.c0
  clear h
  go_enter Try.func31, Try.ntmps31
  go_wp2
  go_ret
  exact ⟨rfl, rfl⟩

theorem Count_any (h : DiskAt w L D) : Calls Try.prog 23 #[.pointer (some ⟨L.b, 0, none⟩)] w fun e w' => e = .returned (.int .i64 (D.c : Int)) ∧ w = w' := by
  have c0 := h.c1
  clear h
  go_enter Try.func23, Try.ntmps23
  go_wp2
  go_ret
  exact ⟨rfl, rfl⟩

theorem IsOn_any (h : DiskAt w L D) : Calls Try.prog 24 #[.pointer (some ⟨L.b, 0, none⟩)] w fun e w' => e = .returned (.bool D.on) ∧ w = w' := by
  have c0 := h.c4
  clear h
  go_enter Try.func24, Try.ntmps24
  go_wp2
  go_ret
  exact ⟨rfl, rfl⟩

theorem isMade_any (h : DiskAt w L D) : Calls Try.prog 147 #[.pointer (some ⟨L.b, 0, none⟩)] w fun e w' => e = .returned (.bool true) ∧ w = w' := by
  have H := hide_ h
  have hc : 0 < D.c := h.ok.c1
  clear h
  go_enter Try.func147, Try.ntmps147
  go_wp2_with (refine (Count_any H.out).mono ?_; rintro e w1 ⟨rfl, rfl⟩)
  go_ret
  exact ⟨rfl, rfl⟩

theorem answers_any (h : DiskAt w L D) : Calls Try.prog 133 #[.pointer (some ⟨L.b, 0, none⟩)] w fun e w' => e = .returned (.int .i64 (if D.on = true then 0 else 8)) ∧ w = w' := by
  have H := hide_ h
  have c4 := h.c4
  clear h
  obtain ⟨t, ht⟩ : ∃ t, D.on = t := ⟨_, rfl⟩
  rw [ht] at c4 ⊢
  clear ht
  cases t <;> simp only [if_true, if_false, Bool.false_eq_true]
  all_goals
    go_enter Try.func133, Try.ntmps133
    go_wp2_with (refine (isMade_any H.out).mono ?_; rintro e w1 ⟨rfl, rfl⟩)
    go_ret
    exact ⟨rfl, rfl⟩

theorem isBelow_any (i m : Int) (w : World) : Calls Try.prog 134 #[.int .i64 i, .int .i64 m] w fun e w' => e = .returned (.bool (decide (0 ≤ i ∧ i < m))) ∧ w = w' := by
  by_cases h0 : 0 ≤ i
  · by_cases h1 : i < m
    · have e : decide (0 ≤ i ∧ i < m) = true := decide_eq_true ⟨h0, h1⟩
      rw [e]
      clear e
      go_enter Try.func134, Try.ntmps134
      go_wp2
      go_ret
      exact ⟨rfl, rfl⟩
    · have e : decide (0 ≤ i ∧ i < m) = false := decide_eq_false (by omega)
      rw [e]
      clear e
      go_enter Try.func134, Try.ntmps134
      go_wp2
      go_ret
      exact ⟨rfl, rfl⟩
  · have e : decide (0 ≤ i ∧ i < m) = false := decide_eq_false (by omega)
    rw [e]
    clear e
    go_enter Try.func134, Try.ntmps134
    go_wp2
    go_ret
    exact ⟨rfl, rfl⟩

theorem reaches_any (h : DiskAt w L D) (i : Int) : Calls Try.prog 110 #[.pointer (some ⟨L.b, 0, none⟩), .int .i64 i] w fun e w' => e = .returned (.int .i64 (reachD D i)) ∧ w = w' := by
  have H := hide_ h
  have c1 := h.c1
  clear h
  unfold reachD
  by_cases ht : D.on = true
  · rw [if_pos ht]
    have HA := hide_ (show Calls Try.prog 133 #[.pointer (some ⟨L.b, 0, none⟩)] w fun e w' => e = .returned (.int .i64 0) ∧ w = w' from by
      have := answers_any H.out
      rwa [if_pos ht] at this)
    clear ht
    by_cases hi : 0 ≤ i ∧ i < D.c
    · rw [if_pos hi]
      have HI := hide_ (show Calls Try.prog 134 #[.int .i64 i, .int .i64 (D.c : Int)] w fun e w' => e = .returned (.bool true) ∧ w = w' from by
        have := isBelow_any i D.c w
        rwa [decide_eq_true hi] at this)
      clear hi
      go_enter Try.func110, Try.ntmps110
      go_wp2_with (first | (go_at_call 133; refine HA.out.mono ?_; rintro e w1 ⟨rfl, rfl⟩) | (go_at_call 134; refine HI.out.mono ?_; rintro e w1 ⟨rfl, rfl⟩))
      go_ret
      exact ⟨rfl, rfl⟩
    · rw [if_neg hi]
      have HI := hide_ (show Calls Try.prog 134 #[.int .i64 i, .int .i64 (D.c : Int)] w fun e w' => e = .returned (.bool false) ∧ w = w' from by
        have := isBelow_any i D.c w
        rwa [decide_eq_false hi] at this)
      clear hi
      go_enter Try.func110, Try.ntmps110
      go_wp2_with (first | (go_at_call 133; refine HA.out.mono ?_; rintro e w1 ⟨rfl, rfl⟩) | (go_at_call 134; refine HI.out.mono ?_; rintro e w1 ⟨rfl, rfl⟩))
      go_ret
      exact ⟨rfl, rfl⟩
  · rw [if_neg ht]
    have HA := hide_ (show Calls Try.prog 133 #[.pointer (some ⟨L.b, 0, none⟩)] w fun e w' => e = .returned (.int .i64 8) ∧ w = w' from by
      have := answers_any H.out
      rwa [if_neg ht] at this)
    clear ht
    go_enter Try.func110, Try.ntmps110
    go_wp2_with (go_at_call 133; refine HA.out.mono ?_; rintro e w1 ⟨rfl, rfl⟩)
    go_ret
    exact ⟨rfl, rfl⟩
end
end Go.Proofs.Ytecbpmnolgkllaa
