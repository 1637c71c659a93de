/-
  Plain lemmas on configurations, quorums and steps. Nothing here speaks of a program.
-/
import Derived.Test.YtlcgihdphdkhpaaConf1
namespace Go.Proofs.Ytlcgihdphdkhpaa

theorem mayN_iff (l : List UInt8) : mayN l = true ↔ (∀ n ∈ l, n.toNat < 64) ∧ l.Pairwise (fun a b => a.toNat < b.toNat) := by
  constructor
  · intro h
    have hb : ∀ k, k < l.length → badN l k = false := by
      intro k hk
      cases hq : badN l k with
      | false => rfl
      | true => rw [mayN_bad hk hq] at h; cases h
    have h64 : ∀ k (hk : k < l.length), l[k].toNat < 64 := by
      intro k hk
      have := hb k hk
      rcases k with _ | k
      · rw [badN_zero hk] at this
        simpa using this
      · rw [badN_succ hk, Bool.or_eq_false_iff] at this
        simpa using this.1
    have hup : ∀ k (hk : k + 1 < l.length), l[k].toNat < l[k + 1].toNat := by
      intro k hk
      have := hb (k + 1) hk
      rw [badN_succ hk, Bool.or_eq_false_iff] at this
      simpa using this.2
    refine ⟨fun n hn => ?_, List.pairwise_iff_getElem.2 fun i j hi hj hij => ?_⟩
    · obtain ⟨k, hk, rfl⟩ := List.getElem_of_mem hn
      exact h64 k hk
    · obtain ⟨d, rfl⟩ : ∃ d, j = i + d + 1 := ⟨j - i - 1, by omega⟩
      clear hij
      induction d with
      | zero => exact hup i hj
      | succ d ih => exact Nat.lt_trans (ih (by omega)) (hup (i + d + 1) hj)
  · rintro ⟨h1, h2⟩
    refine mayN_good fun k hk => ?_
    rcases k with _ | k
    · rw [badN_zero hk]
      have := h1 _ (List.getElem_mem hk)
      simpa using this
    · rw [badN_succ hk, Bool.or_eq_false_iff]
      have := h1 _ (List.getElem_mem hk)
      have h3 := List.pairwise_iff_getElem.1 h2 k (k + 1) (by omega) hk (by omega)
      exact ⟨by simpa using this, by simpa using h3⟩
theorem mayN_64 {l : List UInt8} (h : mayN l = true) : ∀ n ∈ l, n.toNat < 64 := ((mayN_iff l).1 h).1
theorem mayN_nodup {l : List UInt8} (h : mayN l = true) : l.Nodup := ((mayN_iff l).1 h).2.imp fun hab e => by subst e; omega
theorem mayN_len {l : List UInt8} (h : mayN l = true) : l.length ≤ 64 := by
  have h1 := count_nodes l (mayN_nodup h) (mayN_64 h) (fun _ => true)
  rw [List.countP_eq_length.2 (fun _ _ => rfl)] at h1
  rw [← h1]
  exact Nat.le_trans List.countP_le_length (by simp)
theorem mayN_mem {l m : List UInt8} (hl : mayN l = true) (hm : mayN m = true) (h : ∀ x, x ∈ l ↔ x ∈ m) : l = m := by
  have hp := nub_perm (mayN_nodup hl) (mayN_nodup hm) h
  exact hp.eq_of_pairwise (fun a b _ _ h k => by omega) ((mayN_iff l).1 hl).2 ((mayN_iff m).1 hm).2

/-! keepers -/
theorem ofM_nodup (l : List UInt8) (key : UInt8) : (ofM l key).Nodup := by
  rw [ofM, (upB_perm _).nodup_iff]
  exact keepM_nodup _ _ _
theorem ofM_sub {l : List UInt8} {key x : UInt8} (h : x ∈ ofM l key) : x ∈ l := by
  rw [ofM, (upB_perm _).mem_iff, keepM_eq] at h
  exact (mem_ringM l x).1 ((mem_allK _ _ x).1 (List.mem_of_mem_take h))
theorem ofM_pos {l : List UInt8} (key : UInt8) (h : 0 < l.length) : 0 < (ofM l key).length := by
  rw [ofM, (upB_perm _).length_eq, keepM_eq, List.length_take]
  have hm : l[0] ∈ allK (ringM l) (keyN key) := (mem_allK _ _ _).2 ((mem_ringM l _).2 (List.getElem_mem h))
  have := List.length_pos_of_mem hm
  show 0 < min 3 _
  omega
theorem ofM_64 {l : List UInt8} (h : mayN l = true) (key : UInt8) : ∀ x ∈ ofM l key, x.toNat < 64 := fun x hx => mayN_64 h x (ofM_sub hx)
theorem keep_pop {l : List UInt8} (h : mayN l = true) (key : UInt8) (s : Nat) : popN 64 (setN (ofM l key) &&& s) = cntN (ofM l key) s := pop_and _ (ofM_nodup _ _) (ofM_64 h key) s
theorem keep_all {l : List UInt8} (h : mayN l = true) (key : UInt8) : popN 64 (setN (ofM l key)) = (ofM l key).length := pop_set _ (ofM_nodup _ _) (ofM_64 h key)

/-! quorums of one ring -/
def quoL (l : List UInt8) (s : Nat) : Bool := decide (l.length < 2 * cntN l s)
def allL (l : List UInt8) (s : Nat) : Bool := decide (cntN l s = l.length)
theorem quo_meet {l : List UInt8} {s t : Nat} (hs : quoL l s = true) (ht : quoL l t = true) (h : s &&& t = 0) : False := by
  simp only [quoL, decide_eq_true_eq] at hs ht
  have : ∀ l : List UInt8, cntN l s + cntN l t ≤ l.length := by
    intro l
    induction l with
    | nil => simp [cntN]
    | cons n l ih =>
      have hb : ¬ (s.testBit n.toNat = true ∧ t.testBit n.toNat = true) := by
        intro hb
        have h2 := Nat.testBit_and s t n.toNat
        rw [h, hb.1, hb.2] at h2
        simp at h2
      simp only [cntN, List.countP_cons, List.length_cons] at ih ⊢
      split <;> split <;> first | omega | (rename_i a b; exact absurd ⟨a, b⟩ hb)
  have := this l
  omega
theorem cnt_not {l : List UInt8} (h : ∀ n ∈ l, n.toNat < 64) {s : Nat} (hs : s < 18446744073709551616) : cntN l (18446744073709551615 - s) + cntN l s = l.length := by
  induction l with
  | nil => rfl
  | cons n l ih =>
    have ih := ih (fun x hx => h x (List.mem_cons_of_mem _ hx))
    have hn := h n List.mem_cons_self
    have hb : (18446744073709551615 - s).testBit n.toNat = !s.testBit n.toNat := by
      rw [show 18446744073709551615 - s = 2 ^ 64 - (s + 1) by omega, Nat.testBit_two_pow_sub_succ hs, decide_eq_true hn, Bool.true_and]
    simp only [cntN, List.countP_cons, List.length_cons, hb] at ih ⊢
    cases s.testBit n.toNat <;> simp <;> omega
theorem quo_not {l : List UInt8} (h : ∀ n ∈ l, n.toNat < 64) {s : Nat} (hs : s < 18446744073709551616) (hq : quoL l s = true) : quoL l (18446744073709551615 - s) = false := by
  have := cnt_not h hs
  simp only [quoL, decide_eq_true_eq, decide_eq_false_iff_not] at hq ⊢
  omega
theorem quo_more {l : List UInt8} {s t : Nat} (hq : quoL l s = true) : quoL l (s ||| t) = true := by
  have : cntN l s ≤ cntN l (s ||| t) := List.countP_mono_left (fun n _ hn => by rw [Nat.testBit_or, hn, Bool.true_or])
  simp only [quoL, decide_eq_true_eq] at hq ⊢
  omega
theorem all_quo {l : List UInt8} {s : Nat} (hl : 0 < l.length) (h : allL l s = true) : quoL l s = true := by
  simp only [quoL, allL, decide_eq_true_eq] at h ⊢
  omega

/-! configurations -/
def okL (l : List UInt8) : Bool := decide (0 < l.length) && mayN l
def mayC (C : Nat) (o n : List UInt8) : Bool := (ringsN C o n).all okL && (if C % 2 = 1 then decide (othN o n + othN n o = 1) else decide (o.length = 0))
def quoC (C : Nat) (o n : List UInt8) (key : UInt8) (s : Nat) : Bool := mayC C o n && (ringsN C o n).all fun l => quoL (ofM l key) s
def allC (C : Nat) (o n : List UInt8) (key : UInt8) (s : Nat) : Bool := mayC C o n && (ringsN C o n).all fun l => allL (ofM l key) s
theorem mayC_odd {C : Nat} {o n : List UInt8} (hC : C % 2 = 1) : mayC C o n = ((okL o && okL n) && decide (othN o n + othN n o = 1)) := by
  simp [mayC, ringsN, hC]
theorem mayC_even {C : Nat} {o n : List UInt8} (hC : ¬ C % 2 = 1) : mayC C o n = (okL n && decide (o.length = 0)) := by
  simp [mayC, ringsN, hC]
theorem rings_ok {C : Nat} {o n : List UInt8} (h : mayC C o n = true) : ∀ l ∈ ringsN C o n, okL l = true := by
  rw [mayC, Bool.and_eq_true, List.all_eq_true] at h
  exact h.1
theorem okL_may {l : List UInt8} (h : okL l = true) : mayN l = true := by
  rw [okL, Bool.and_eq_true] at h
  exact h.2
theorem okL_pos {l : List UInt8} (h : okL l = true) : 0 < l.length := by
  rw [okL, Bool.and_eq_true] at h
  simpa using h.1
theorem quoC_iff {C : Nat} {o n : List UInt8} {key : UInt8} {s : Nat} : quoC C o n key s = true ↔ mayC C o n = true ∧ ∀ l ∈ ringsN C o n, quoL (ofM l key) s = true := by
  rw [quoC, Bool.and_eq_true, List.all_eq_true]
theorem new_in {α : Type} (C : Nat) (a b : α) : b ∈ ringsN C a b := by
  unfold ringsN
  split <;> simp
theorem quoC_meet {C : Nat} {o n : List UInt8} {key : UInt8} {s t : Nat} (hs : quoC C o n key s = true) (ht : quoC C o n key t = true) (h : s &&& t = 0) : False :=
  quo_meet ((quoC_iff.1 hs).2 n (new_in _ _ _)) ((quoC_iff.1 ht).2 n (new_in _ _ _)) h
theorem quoC_not {C : Nat} {o n : List UInt8} {key : UInt8} {s : Nat} (hs : s < 18446744073709551616) (hq : quoC C o n key s = true) : quoC C o n key (18446744073709551615 - s) = false := by
  have hm := (quoC_iff.1 hq).1
  have h1 := quo_not (ofM_64 (okL_may (rings_ok hm n (new_in _ _ _))) key) hs ((quoC_iff.1 hq).2 n (new_in _ _ _))
  rw [← Bool.not_eq_true]
  intro h
  rw [(quoC_iff.1 h).2 n (new_in _ _ _)] at h1
  cases h1
theorem quoC_more {C : Nat} {o n : List UInt8} {key : UInt8} {s t : Nat} (hq : quoC C o n key s = true) : quoC C o n key (s ||| t) = true :=
  quoC_iff.2 ⟨(quoC_iff.1 hq).1, fun l hl => quo_more ((quoC_iff.1 hq).2 l hl)⟩
theorem allC_quo {C : Nat} {o n : List UInt8} {key : UInt8} {s : Nat} (h : allC C o n key s = true) : quoC C o n key s = true := by
  rw [allC, Bool.and_eq_true, List.all_eq_true] at h
  exact quoC_iff.2 ⟨h.1, fun l hl => all_quo (ofM_pos key (okL_pos (rings_ok h.1 l hl))) (h.2 l hl)⟩

/-! steps -/
/-- with one more, or without it -/
def turnN (l : List UInt8) (x : UInt8) : List UInt8 := if l.contains x then l.filter (fun y => y != x) else (l.filter fun y => decide (y.toNat < x.toNat)) ++ x :: l.filter fun y => decide (x.toNat < y.toNat)
/-- the error, and what comes -/
def stepN (C : Nat) (o n : List UInt8) (x : UInt8) : Int × Nat × List UInt8 × List UInt8 :=
  if !mayC C o n then (1, 0, [], []) else if C % 2 = 1 then (if 9223372036854775808 ≤ C then (7, 0, [], []) else (0, C + 1, [], n))
  else if 64 ≤ x.toNat then (1, 0, [], []) else if (turnN n x).length = 0 then (1, 0, [], []) else if 9223372036854775808 ≤ C then (7, 0, [], []) else (0, C + 1, n, turnN n x)
theorem mem_turnN (l : List UInt8) (x y : UInt8) : y ∈ turnN l x ↔ (y ∈ l ∧ y ≠ x) ∨ (y = x ∧ x ∉ l) := by
  unfold turnN
  split
  · rename_i h
    rw [List.contains_iff_mem] at h
    simp [h]
  · rename_i h
    rw [List.contains_iff_mem] at h
    simp only [List.mem_append, List.mem_filter, List.mem_cons, decide_eq_true_eq]
    constructor
    · rintro (⟨h1, h2⟩ | rfl | ⟨h1, h2⟩)
      · exact .inl ⟨h1, by rintro rfl; omega⟩
      · exact .inr ⟨rfl, h⟩
      · exact .inl ⟨h1, by rintro rfl; omega⟩
    · rintro (⟨h1, h2⟩ | ⟨rfl, h1⟩)
      · have : y.toNat ≠ x.toNat := fun e => h2 (UInt8.toNat_inj.1 e)
        rcases Nat.lt_or_ge y.toNat x.toNat with h3 | h3
        · exact .inl ⟨h1, h3⟩
        · exact .inr (.inr ⟨h1, by omega⟩)
      · exact .inr (.inl rfl)
theorem mayN_filter {l : List UInt8} (h : mayN l = true) (p : UInt8 → Bool) : mayN (l.filter p) = true := by
  rw [mayN_iff] at h ⊢
  exact ⟨fun n hn => h.1 n (List.mem_filter.1 hn).1, h.2.filter p⟩
theorem mayN_turnN {l : List UInt8} {x : UInt8} (h : mayN l = true) (hx : x.toNat < 64) : mayN (turnN l x) = true := by
  unfold turnN
  split
  · exact mayN_filter h _
  · rw [mayN_iff] at h ⊢
    refine ⟨fun n hn => ?_, ?_⟩
    · simp only [List.mem_append, List.mem_filter, List.mem_cons] at hn
      rcases hn with hn | rfl | hn
      · exact h.1 n hn.1
      · exact hx
      · exact h.1 n hn.1
    · rw [List.pairwise_append, List.pairwise_cons]
      refine ⟨h.2.filter _, ⟨fun b hb => by simpa using (List.mem_filter.1 hb).2, h.2.filter _⟩, fun a ha b hb => ?_⟩
      have ha := (List.mem_filter.1 ha).2
      simp only [decide_eq_true_eq] at ha
      rcases List.mem_cons.1 hb with rfl | hb
      · exact ha
      · have hb := (List.mem_filter.1 hb).2
        simp only [decide_eq_true_eq] at hb
        omega
theorem mayN_turnN_out {l : List UInt8} {x : UInt8} (h : mayN l = true) (hx : ¬ x.toNat < 64) : mayN (turnN l x) = false := by
  have hn : x ∉ l := fun hm => hx (mayN_64 h x hm)
  rw [← Bool.not_eq_true]
  intro hm
  exact hx (mayN_64 hm x ((mem_turnN l x x).2 (.inr ⟨rfl, hn⟩)))
theorem othN_turnN {l : List UInt8} (x : UInt8) (h : l.Nodup) (ht : (turnN l x).Nodup) : othN l (turnN l x) + othN (turnN l x) l = 1 := by
  have hone : ∀ {m : List UInt8} (p : UInt8 → Bool), m.Nodup → x ∈ m → (∀ y ∈ m, p y = true ↔ y = x) → m.countP p = 1 := by
    intro m p hm hx hp
    rw [List.countP_eq_length_filter]
    have hq : (m.filter p).Perm [x] := nub_perm (hm.filter p) (by simp) fun y => by
      rw [List.mem_filter, List.mem_singleton]
      constructor
      · rintro ⟨h1, h2⟩
        exact (hp y h1).1 h2
      · rintro rfl
        exact ⟨hx, (hp _ hx).2 rfl⟩
    rw [hq.length_eq]
    rfl
  have hnil : ∀ {m : List UInt8} (p : UInt8 → Bool), (∀ y ∈ m, ¬ p y = true) → m.countP p = 0 := fun p hp => List.countP_eq_zero.2 hp
  by_cases hx : x ∈ l
  · have h1 : othN l (turnN l x) = 1 := hone _ h hx (fun y hy => by
      rw [Bool.not_eq_true', ← Bool.not_eq_true, List.contains_iff_mem, mem_turnN]
      constructor
      · intro hn
        by_cases e : y = x
        · exact e
        · exact absurd (.inl ⟨hy, e⟩) hn
      · rintro rfl
        rintro (⟨_, h2⟩ | ⟨_, h2⟩)
        · exact h2 rfl
        · exact h2 hx)
    have h2 : othN (turnN l x) l = 0 := hnil _ (fun y hy => by
      rw [Bool.not_eq_true', ← Bool.not_eq_true, List.contains_iff_mem]
      intro hn
      rcases (mem_turnN l x y).1 hy with h2 | ⟨rfl, h2⟩
      · exact hn h2.1
      · exact h2 hx)
    omega
  · have h1 : othN l (turnN l x) = 0 := hnil _ (fun y hy => by
      rw [Bool.not_eq_true', ← Bool.not_eq_true, List.contains_iff_mem, mem_turnN]
      intro hn
      exact hn (.inl ⟨hy, fun e => hx (e ▸ hy)⟩))
    have h2 : othN (turnN l x) l = 1 := hone _ ht ((mem_turnN l x x).2 (.inr ⟨rfl, hx⟩)) (fun y hy => by
      rw [Bool.not_eq_true', ← Bool.not_eq_true, List.contains_iff_mem]
      constructor
      · intro hn
        rcases (mem_turnN l x y).1 hy with h2 | ⟨e, _⟩
        · exact absurd h2.1 hn
        · exact e
      · rintro rfl
        exact hx)
    omega
/-- what comes of a step may be, but where there is an error -/
theorem may_step {C : Nat} {o n : List UInt8} {x : UInt8} (h : mayC C o n = true) (hC : ¬ C % 2 = 1) : mayC (C + 1) n (turnN n x) = (decide (x.toNat < 64) && decide (0 < (turnN n x).length)) := by
  have hn := h
  rw [mayC_even hC, Bool.and_eq_true] at hn
  rw [mayC_odd (by omega), hn.1, Bool.true_and, okL]
  by_cases hx : x.toNat < 64
  · have ht := mayN_turnN (okL_may hn.1) hx
    rw [ht, othN_turnN x (mayN_nodup (okL_may hn.1)) (mayN_nodup ht)]
    simp [hx]
  · rw [mayN_turnN_out (okL_may hn.1) hx]
    simp [hx]
theorem may_back {C : Nat} {o n : List UInt8} (h : mayC C o n = true) {D : Nat} (hD : ¬ D % 2 = 1) : mayC D [] n = true := by
  rw [mayC_even hD, rings_ok h n (new_in _ _ _)]
  rfl
theorem stepN_may {C : Nat} {o n : List UInt8} {x : UInt8} (h0 : (stepN C o n x).1 = 0) : mayC (stepN C o n x).2.1 (stepN C o n x).2.2.1 (stepN C o n x).2.2.2 = true := by
  unfold stepN at h0 ⊢
  cases hm : mayC C o n with
  | false => rw [hm] at h0; simp at h0
  | true =>
    rw [hm] at h0
    simp only [Bool.not_true, Bool.false_eq_true, if_false] at h0 ⊢
    by_cases hC : C % 2 = 1
    · rw [if_pos hC] at h0 ⊢
      split at h0
      · simp at h0
      · rw [if_neg (by assumption)]
        exact may_back hm (D := C + 1) (by omega)
    · rw [if_neg hC] at h0 ⊢
      split at h0
      · simp at h0
      · rename_i hx
        rw [if_neg hx]
        split at h0
        · simp at h0
        · rename_i hl
          rw [if_neg hl]
          split at h0
          · simp at h0
          · rw [if_neg (by assumption)]
            show mayC (C + 1) n (turnN n x) = true
            rw [may_step hm hC]
            simp
            omega
/-- a quorum of one, and one of its step, have a node in common -/
theorem step_meet {C : Nat} {o n : List UInt8} {x key : UInt8} {s t : Nat} (h0 : (stepN C o n x).1 = 0) (hs : quoC C o n key s = true)
    (ht : quoC (stepN C o n x).2.1 (stepN C o n x).2.2.1 (stepN C o n x).2.2.2 key t = true) (h : s &&& t = 0) : False := by
  have hn := (quoC_iff.1 hs).2 n (new_in _ _ _)
  refine quo_meet hn ((quoC_iff.1 ht).2 n ?_) h
  unfold stepN at h0 ⊢
  rw [(quoC_iff.1 hs).1] at h0 ⊢
  simp only [Bool.not_true, Bool.false_eq_true, if_false] at h0 ⊢
  by_cases hC : C % 2 = 1
  · rw [if_pos hC] at h0 ⊢
    split at h0
    · simp at h0
    · rw [if_neg (by assumption)]
      exact new_in _ _ _
  · rw [if_neg hC] at h0 ⊢
    split at h0
    · simp at h0
    · rename_i hx
      rw [if_neg hx]
      split at h0
      · simp at h0
      · rename_i hl
        rw [if_neg hl]
        split at h0
        · simp at h0
        · rw [if_neg (by assumption)]
          show n ∈ ringsN (C + 1) n (turnN n x)
          rw [ringsN, if_pos (by omega)]
          exact List.mem_cons_self
end Go.Proofs.Ytlcgihdphdkhpaa
