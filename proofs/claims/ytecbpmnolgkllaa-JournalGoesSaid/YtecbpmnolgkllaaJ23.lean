/-
  Texts of this claim put together: St.
-/
import Derived.Test.YtecbpmnolgkllaaJ22
/-
  A reader's calls by one contract each: the reader's state (what is left, its error) as a pair; what is taken and the state behind it are plain functions of it.
-/
namespace Go.Proofs.Ytecbpmnolgkllaa
open Go.RowKit

theorem upTo_er {most : Nat} {l : List UInt8} {er : Int} (h : takeUp most l = .inr er) : er = 2 ∨ er = 3 ∨ er = 6 := by
  rw [takeUp] at h
  rcases ht : takeN 0 0 l with ⟨n, t⟩ | e
  · rw [ht] at h
    simp only at h
    split at h
    · injection h with h
      omega
    · cases h
  · rw [ht] at h
    injection h with h
    rcases takeN_er l 0 0 ht with rfl | rfl <;> omega
theorem upTo_left {most n : Nat} {l t : List UInt8} (h : takeUp most l = .inl (n, t)) : t.length < l.length ∧ n ≤ most := by
  rw [takeUp] at h
  rcases ht : takeN 0 0 l with ⟨x, u⟩ | e
  · rw [ht] at h
    simp only at h
    split at h
    · cases h
    · injection h with h
      injection h with h1 h2
      subst h1 h2
      exact ⟨takeN_left l 0 0 ht, by omega⟩
  · rw [ht] at h
    cases h

/-- a reader's state: what is left, the error -/
abbrev RS := List UInt8 × Int
/-- an error that numbers fail with, or none -/
def RSok (s : RS) : Prop := (s.2 = 0 ∨ s.2 = 2 ∨ s.2 = 3 ∨ s.2 = 6) ∧ s.1.length ≤ 1000000
def numS (most : Nat) (s : RS) : Nat × RS :=
  if s.2 = 0 then (match takeUp most s.1 with | .inl (n, t) => (n, (t, 0)) | .inr er => (0, ([], er))) else (0, s)
def intS (s : RS) : Int × RS :=
  if s.2 = 0 then (match takeN 0 0 s.1 with | .inl (n, t) => (unfoldN n, (t, 0)) | .inr er => (0, ([], er))) else (0, s)
theorem numS_ok {most : Nat} {s : RS} (h : RSok s) : RSok (numS most s).2 ∧ (numS most s).1 ≤ most := by
  obtain ⟨l, er⟩ := s
  unfold numS
  by_cases h0 : er = 0
  · subst h0
    rw [if_pos rfl]
    rcases ht : takeUp most l with ⟨n, t⟩ | e
    · have h1 := upTo_left ht
      exact ⟨⟨.inl rfl, by have := h.2; simp only at this ⊢; omega⟩, h1.2⟩
    · have h1 := upTo_er ht
      refine ⟨⟨?_, by simp⟩, by simp⟩
      simp only
      omega
  · rw [if_neg h0]
    exact ⟨h, by simp⟩
theorem intS_ok {s : RS} (h : RSok s) : RSok (intS s).2 ∧ (-9223372036854775808 ≤ (intS s).1 ∧ (intS s).1 ≤ 9223372036854775807) := by
  obtain ⟨l, er⟩ := s
  unfold intS
  by_cases h0 : er = 0
  · subst h0
    rw [if_pos rfl]
    rcases ht : takeN 0 0 l with ⟨n, t⟩ | e
    · have h1 := takeN_left l 0 0 ht
      have h2 := takeN_lt l 0 0 (by simp) (by omega) ht
      refine ⟨⟨.inl rfl, by have := h.2; simp only at this ⊢; omega⟩, ?_⟩
      simp only
      unfold unfoldN
      split <;> omega
    · have h1 := takeN_er l 0 0 ht
      refine ⟨⟨?_, by simp⟩, by simp⟩
      simp only
      omega
  · rw [if_neg h0]
    exact ⟨h, by simp⟩

/-- what a call leaves that takes something of a reader -/
def LeavesS (w : World) (g : Nat) (v : Value) (s : RS) (e : Ending) (w' : World) : Prop := e = .returned v ∧ Rdr w' g s.1 s.2 ∧ w.grownBy w' (some g)

theorem Num_st {g : Nat} {s : RS} {w : World} (x : Nat) (h : Rdr w g s.1 s.2) (hs : RSok s) : Calls Try.prog 54 #[.pointer (some ⟨g, 0, none⟩), .int .u64 x] w (LeavesS w g (.int .u64 (numS x s).1) (numS x s).2) := by
  obtain ⟨l, er⟩ := s
  have hl := hs.2
  simp only at h hl
  unfold numS
  by_cases h0 : er = 0
  · subst h0
    rw [if_pos rfl]
    refine (Num_live x h (by omega)).mono ?_
    rcases ht : takeUp x l with ⟨n, t⟩ | e
    · rintro en w1 ⟨rfl, hr, hg⟩
      exact ⟨rfl, hr, hg⟩
    · rintro en w1 ⟨rfl, hr, hg⟩
      exact ⟨rfl, hr, hg⟩
  · rw [if_neg h0]
    refine (Num_err x h h0).mono ?_
    rintro en w1 ⟨rfl, rfl⟩
    exact ⟨rfl, h, World.grownBy.refl _ _⟩

/-- what End tells of a state -/
def endS (s : RS) : Int := if s.2 = 0 then (if s.1 = [] then 0 else 4) else s.2
theorem End_st {g : Nat} {s : RS} {w : World} (h : Rdr w g s.1 s.2) : Calls Try.prog 56 #[.pointer (some ⟨g, 0, none⟩)] w fun e w' => e = .returned (.int .i64 (endS s)) ∧ w = w' := End_live h (endS s) rfl

/-- k parts behind each other -/
def iterS {α : Type} (f : RS → α × RS) : Nat → RS → List α × RS
  | 0, s => ([], s)
  | k + 1, s => let r := f s; let q := iterS f k r.2; (r.1 :: q.1, q.2)
theorem iterS_snoc {α : Type} (f : RS → α × RS) : ∀ (k : Nat) (s : RS), iterS f (k + 1) s = ((iterS f k s).1 ++ [(f (iterS f k s).2).1], (f (iterS f k s).2).2) := by
  intro k
  induction k with
  | zero => intro s; rfl
  | succ k ih =>
    intro s
    have h := ih (f s).2
    show ((f s).1 :: (iterS f (k + 1) (f s).2).1, (iterS f (k + 1) (f s).2).2) = _
    rw [h]
    rfl
theorem iterS_len {α : Type} (f : RS → α × RS) : ∀ (k : Nat) (s : RS), (iterS f k s).1.length = k := by
  intro k
  induction k with
  | zero => intro s; rfl
  | succ k ih => intro s; show ((f s).1 :: (iterS f k (f s).2).1).length = k + 1; rw [List.length_cons, ih]
theorem iterS_ok {α : Type} {f : RS → α × RS} (hf : ∀ s, RSok s → RSok (f s).2) : ∀ (k : Nat) (s : RS), RSok s → RSok (iterS f k s).2 := by
  intro k
  induction k with
  | zero => intro s h; exact h
  | succ k ih => intro s h; exact ih _ (hf s h)
/-- how many, and each of them -/
def manyS {α : Type} (most : Nat) (f : RS → α × RS) (s : RS) : List α × RS := iterS f (numS most s).1 (numS most s).2
theorem manyS_ok {α : Type} {most : Nat} {f : RS → α × RS} (hf : ∀ s, RSok s → RSok (f s).2) {s : RS} (h : RSok s) : RSok (manyS most f s).2 := iterS_ok hf _ _ (numS_ok h).1

/-- what is put is taken -/
theorem numS_put {x most : Nat} (t : List UInt8) (hx : x < 18446744073709551616) (hm : x ≤ most) : numS most (numB x ++ t, 0) = (x, (t, 0)) := by
  unfold numS
  rw [if_pos rfl]
  simp only
  rw [takeUp_put x most t hx hm]
theorem intS_put {x : Int} (t : List UInt8) (h1 : -9223372036854775808 ≤ x) (h2 : x ≤ 9223372036854775807) : intS (intB x ++ t, 0) = (x, (t, 0)) := by
  unfold intS intB
  rw [if_pos rfl]
  simp only
  rw [takeN_put _ t (foldN_lt x h1 h2)]
  simp only
  rw [unfold_fold]
theorem iterS_put {α : Type} {f : RS → α × RS} {b : α → List UInt8} : ∀ (l : List α) (t : List UInt8), (∀ x ∈ l, ∀ t, f (b x ++ t, 0) = (x, (t, 0))) → iterS f l.length (l.flatMap b ++ t, 0) = (l, (t, 0)) := by
  intro l
  induction l with
  | nil => intro t _; rfl
  | cons x l ih =>
    intro t h
    rw [List.flatMap_cons, List.length_cons, List.append_assoc]
    show ((f _).1 :: (iterS f l.length (f _).2).1, (iterS f l.length (f _).2).2) = _
    rw [h x (by simp), ih t fun y hy => h y (by simp [hy])]
theorem manyS_put {α : Type} {f : RS → α × RS} {b : α → List UInt8} {most : Nat} (l : List α) (t : List UInt8) (hm : l.length ≤ most) (hl : l.length < 18446744073709551616) (h : ∀ x ∈ l, ∀ t, f (b x ++ t, 0) = (x, (t, 0))) : manyS most f (numB l.length ++ (l.flatMap b ++ t), 0) = (l, (t, 0)) := by
  unfold manyS
  rw [numS_put _ hl hm]
  exact iterS_put l t h

/-- what is cut off is short: f on any head of b but the whole -/
def Cuts {α : Type} (f : RS → α × RS) (b : List UInt8) : Prop := ∀ k, k < b.length → (f (b.take k, 0)).2 = ([], 2)
/-- with an error nothing changes -/
def Holds2 {α : Type} (f : RS → α × RS) : Prop := (f ([], 2)).2 = ([], 2)
theorem numS_cuts {x most : Nat} (hx : x < 18446744073709551616) : Cuts (numS most) (numB x) := fun k hk => by
  unfold numS
  rw [if_pos rfl]
  simp only
  rw [takeUp_short x k most hx hk]
theorem intS_cuts {x : Int} (h1 : -9223372036854775808 ≤ x) (h2 : x ≤ 9223372036854775807) : Cuts intS (intB x) := fun k hk => by
  unfold intS
  unfold intB at hk ⊢
  rw [if_pos rfl]
  simp only
  rw [takeN_short _ k (foldN_lt x h1 h2) hk]
theorem numS_holds (most : Nat) : Holds2 (numS most) := rfl
theorem intS_holds : Holds2 intS := rfl
theorem iterS_holds {α : Type} {f : RS → α × RS} (h : Holds2 f) : ∀ k, (iterS f k ([], 2)).2 = ([], 2) := by
  intro k
  induction k with
  | zero => rfl
  | succ k ih =>
    show (iterS f k (f ([], 2)).2).2 = _
    rw [h, ih]
theorem manyS_holds {α : Type} {f : RS → α × RS} {most : Nat} (h : Holds2 f) : Holds2 (manyS most f) := by
  unfold Holds2 manyS
  exact iterS_holds h _
theorem take_app_lt {l m : List UInt8} {k : Nat} (h : k < l.length) : (l ++ m).take k = l.take k := by
  rw [List.take_append, Nat.sub_eq_zero_of_le (by omega), List.take_zero, List.append_nil]
theorem take_app_ge {l m : List UInt8} {k : Nat} (h : l.length ≤ k) : (l ++ m).take k = l ++ m.take (k - l.length) := by
  rw [List.take_append, List.take_of_length_le h]
theorem iterS_cuts {α : Type} {f : RS → α × RS} {b : α → List UInt8} (hf : Holds2 f) : ∀ (l : List α), (∀ x ∈ l, (∀ t, f (b x ++ t, 0) = (x, (t, 0))) ∧ Cuts f (b x)) → Cuts (iterS f l.length) (l.flatMap b) := by
  intro l
  induction l with
  | nil => intro _ k hk; simp at hk
  | cons x l ih =>
    intro h k hk
    rw [List.flatMap_cons, List.length_append] at hk
    rw [List.flatMap_cons, List.length_cons]
    show (iterS f l.length (f _).2).2 = _
    by_cases hl : k < (b x).length
    · rw [take_app_lt hl, (h x (by simp)).2 k hl]
      exact iterS_holds hf _
    · rw [take_app_ge (by omega), (h x (by simp)).1]
      exact ih (fun y hy => h y (by simp [hy])) _ (by omega)
theorem manyS_cuts {α : Type} {f : RS → α × RS} {b : α → List UInt8} {most : Nat} (hf : Holds2 f) (l : List α) (hm : l.length ≤ most) (hl : l.length < 18446744073709551616) (h : ∀ x ∈ l, (∀ t, f (b x ++ t, 0) = (x, (t, 0))) ∧ Cuts f (b x)) : Cuts (manyS most f) (numB l.length ++ l.flatMap b) := fun k hk => by
  rw [List.length_append] at hk
  unfold manyS
  by_cases h1 : k < (numB l.length).length
  · rw [take_app_lt h1, numS_cuts hl k h1]
    exact iterS_holds hf _
  · rw [take_app_ge (by omega), numS_put _ hl hm]
    exact iterS_cuts hf l h _ (by omega)
end Go.Proofs.Ytecbpmnolgkllaa
