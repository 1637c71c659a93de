/-
  Contracts of ballot's other functions and of the document's own answers: Less, Compare, None, Next, Put, Get.
-/
import Derived.Test.YtindhdkgcaflkaaBal
import Derived.Test.YtindhdkgcaflkaaNums
namespace Go.Proofs.Ytindhdkgcaflkaa
open Go.RowKit

/-- does a ballot stand ahead? -/
def lessB (c n l c' n' l' : Nat) : Bool := if c ≠ c' then decide (c < c') else if n ≠ n' then decide (n < n') else decide (l < l')
theorem cmpN_less (a b : Nat) : cmpN a b = if decide (a < b) = true then -1 else if decide (b < a) = true then 1 else 0 := by simp [cmpN]
theorem cmpN_ne {a b : Nat} (h : ¬a = b) : cmpN a b ≠ 0 := by
  rcases cmpN_cases a b with ⟨_, e⟩ | ⟨_, e⟩ | ⟨h', _⟩
  · rw [e]; decide
  · rw [e]; decide
  · exact absurd h' h
theorem cmpB_less (c n l c' n' l' : Nat) : cmpB c n l c' n' l' = if lessB c n l c' n' l' = true then -1 else if lessB c' n' l' c n l = true then 1 else 0 := by
  by_cases h1 : c = c'
  · subst h1
    by_cases h2 : n = n'
    · subst h2
      have e1 : cmpB c n l c n l' = cmpN l l' := by simp [cmpB, cmpN_eq]
      have e2 : lessB c n l c n l' = decide (l < l') := by simp [lessB]
      have e3 : lessB c n l' c n l = decide (l' < l) := by simp [lessB]
      rw [e1, e2, e3]
      exact cmpN_less l l'
    · have e1 : cmpB c n l c n' l' = cmpN n n' := by simp [cmpB, cmpN_eq, cmpN_ne h2]
      have e2 : lessB c n l c n' l' = decide (n < n') := by simp [lessB, h2]
      have e3 : lessB c n' l' c n l = decide (n' < n) := by simp [lessB, Ne.symm h2]
      rw [e1, e2, e3]
      exact cmpN_less n n'
  · have e1 : cmpB c n l c' n' l' = cmpN c c' := by simp [cmpB, cmpN_ne h1]
    have e2 : lessB c n l c' n' l' = decide (c < c') := by simp [lessB, h1]
    have e3 : lessB c' n' l' c n l = decide (c' < c) := by simp [lessB, Ne.symm h1]
    rw [e1, e2, e3]
    exact cmpN_less c c'

theorem refLess_any (c n l c' n' l' : Nat) (w : World) : Calls Try.prog 19 #[.agg #[.int .u64 c, .int .u8 n, .int .u32 l], .agg #[.int .u64 c', .int .u8 n', .int .u32 l']] w fun e w' =>
    e = .returned (.bool (lessB c n l c' n' l')) ∧ Below w.heap.size w w' := by
  by_cases h1 : c = c'
  · by_cases h2 : n = n'
    · have hr : lessB c n l c' n' l' = decide (l < l') := by simp [lessB, h1, h2]
      rw [hr]
      clear hr
      subst h1 h2
      go_enter Try.func19, Try.ntmps19
      go_wp2
      go_ret
      exact ⟨rfl, ((Below.refl _ _).alloc (Nat.le_refl _) _).alloc (by simp) _⟩
    · have hr : lessB c n l c' n' l' = decide (n < n') := by simp [lessB, h1, h2]
      rw [hr]
      clear hr
      subst h1
      go_enter Try.func19, Try.ntmps19
      go_wp2
      go_ret
      exact ⟨rfl, ((Below.refl _ _).alloc (Nat.le_refl _) _).alloc (by simp) _⟩
  · have hr : lessB c n l c' n' l' = decide (c < c') := by simp [lessB, h1]
    rw [hr]
    clear hr
    go_enter Try.func19, Try.ntmps19
    go_wp2
    go_ret
    exact ⟨rfl, ((Below.refl _ _).alloc (Nat.le_refl _) _).alloc (by simp) _⟩

theorem refCompare_any (c n l c' n' l' : Nat) (w : World) : Calls Try.prog 7 #[.agg #[.int .u64 c, .int .u8 n, .int .u32 l], .agg #[.int .u64 c', .int .u8 n', .int .u32 l']] w fun e w' =>
    e = .returned (.int .i64 (cmpB c n l c' n' l')) ∧ Below w.heap.size w w' := by
  rw [cmpB_less]
  obtain ⟨x, hx⟩ : ∃ x, lessB c n l c' n' l' = x := ⟨_, rfl⟩
  obtain ⟨y, hy⟩ : ∃ y, lessB c' n' l' c n l = y := ⟨_, rfl⟩
  rw [hx, hy]
  have k1 : ∀ w : World, _ := refLess_any c n l c' n' l'
  have k2 : ∀ w : World, _ := refLess_any c' n' l' c n l
  rw [hx] at k1
  rw [hy] at k2
  have K1 := hide_ k1
  have K2 := hide_ k2
  clear hx hy k1 k2
  go_enter Try.func7, Try.ntmps7
  go_wp2_with fail
  refine (K1.out _).mono ?_
  rintro e w1 ⟨rfl, hb1⟩
  obtain ⟨hc1, hf1⟩ := bcell hb1
  have hz1 := hb1.size
  rcases x with _ | _
  · go_wp2_with fail
    refine (K2.out _).mono ?_
    rintro e w2 ⟨rfl, hb2⟩
    rcases y with _ | _
    all_goals
      go_wp2
      go_ret
      exact ⟨rfl, (((Below.refl _ _).alloc (Nat.le_refl _) _).alloc (by simp) _).trans ((hb1.trans (hb2.mono hb1.size)).mono (by simp; omega))⟩
  · go_wp2
    go_ret
    exact ⟨rfl, (((Below.refl _ _).alloc (Nat.le_refl _) _).alloc (by simp) _).trans (hb1.mono (by simp; omega))⟩

theorem None_yes (w : World) : Calls Try.prog 8 #[.agg #[.int .u64 0, .int .u8 0, .int .u32 0]] w fun e w' => e = .returned (.bool true) ∧ Below w.heap.size w w' := by
  go_enter Try.func8, Try.ntmps8
  go_wp2
  go_ret
  exact ⟨rfl, (Below.refl _ _).alloc (Nat.le_refl _) _⟩
theorem None_no (c n l : Nat) (h : ¬(c = 0 ∧ n = 0 ∧ l = 0)) (w : World) : Calls Try.prog 8 #[.agg #[.int .u64 c, .int .u8 n, .int .u32 l]] w fun e w' => e = .returned (.bool false) ∧ Below w.heap.size w w' := by
  have H := hide_ h
  clear h
  go_enter Try.func8, Try.ntmps8
  go_wp2
  · exact absurd ⟨‹c = 0›, ‹n = 0›, ‹l = 0›⟩ H.out
  all_goals
    go_ret
    exact ⟨rfl, (Below.refl _ _).alloc (Nat.le_refl _) _⟩

theorem awake03_any (w : World) : Calls Try.prog 9 #[] w fun e w' => e = .returned (.bool true) ∧ Below w.heap.size w w' := by
  go_enter Try.func9, Try.ntmps9
  go_wp2_with fail
  refine (Compare_any 2 1 0 1 9 0 _).mono ?_
  rintro e w1 ⟨rfl, hb1⟩
  have h : cmpB 2 1 0 1 9 0 = 1 := by decide
  go_wp2
  go_ret
  exact ⟨rfl, hb1⟩

set_option maxRecDepth 100000 in
theorem Next_no (s : Int) (n l : Nat) (w : World) (h : 9223372036854775808 ≤ s) :
    Calls Try.prog 10 #[.int .u64 s, .int .u8 n, .int .u32 l] w fun e w' => e = .returned (.tuple #[.agg #[.int .u64 0, .int .u8 0, .int .u32 0], .int .i64 7]) ∧ Below w.heap.size w w' := by
  go_enter Try.func10, Try.ntmps10
  go_wp2
  refine bodyPost_ret (v := .tuple #[.agg #[.int .u64 0, .int .u8 0, .int .u32 0], .int .i64 7]) (by simp [results, Try.results10, go_sem]) rfl ⟨rfl, (Below.refl _ _).alloc (Nat.le_refl _) _⟩
set_option maxRecDepth 100000 in
theorem Next_yes (s : Int) (n l : Nat) (w : World) (h : s < 9223372036854775808) (h0 : 0 ≤ s) :
    Calls Try.prog 10 #[.int .u64 s, .int .u8 n, .int .u32 l] w fun e w' => e = .returned (.tuple #[.agg #[.int .u64 (s + 1), .int .u8 n, .int .u32 l], .int .i64 0]) ∧ Below w.heap.size w w' := by
  go_enter Try.func10, Try.ntmps10
  go_wp2
  refine bodyPost_ret (v := .tuple #[.agg #[.int .u64 (s + 1), .int .u8 n, .int .u32 l], .int .i64 0]) (by simp [results, Try.results10, go_sem]) rfl ⟨rfl, (Below.refl _ _).alloc (Nat.le_refl _) _⟩
end Go.Proofs.Ytindhdkgcaflkaa
