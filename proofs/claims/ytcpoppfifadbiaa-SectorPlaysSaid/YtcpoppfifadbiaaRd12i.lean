/-
  The document's disk goes as the program's does: over plain data.
-/
import Derived.Test.YtcpoppfifadbiaaRd12
namespace Go.Proofs.Ytcpoppfifadbiaa
open Go.RowKit

theorem falls_ref (D : Dk) : fallsP (refOf D) = refOf (fallD D) := by
  unfold fallsP fallD refOf
  cases h : D.on <;> simp [h]
theorem burns_ref {D : Dk} (h : 0 ≤ D.left) : (burnsP (refOf D)).1 = burnsD D ∧ (burnsP (refOf D)).2 = refOf (burnD D) := by
  cases hf : D.hf with
  | false =>
    have e1 : (refOf D).fuse = -1 := by simp [refOf, hf]
    have e : burnsP (refOf D) = (false, refOf D) := by
      rw [burnsP, if_pos (by rw [e1]; omega)]
    rw [e]
    exact ⟨by simp [burnsD, hf], by simp [burnD, hf]⟩
  | true =>
    have e1 : (refOf D).fuse = D.left := by simp [refOf, hf]
    by_cases h0 : D.left = 0
    · have e : burnsP (refOf D) = (true, fallsP (refOf D)) := by rw [burnsP, if_neg (by rw [e1]; omega), if_pos (by rw [e1]; exact h0)]
      rw [e]
      refine ⟨by simp [burnsD, hf, h0], ?_⟩
      rw [falls_ref, burnD, if_pos hf, if_pos h0]
    · have e : burnsP (refOf D) = (false, { refOf D with fuse := (refOf D).fuse - 1 }) := by rw [burnsP, if_neg (by rw [e1]; omega), if_neg (by rw [e1]; exact h0)]
      rw [e]
      refine ⟨by simp [burnsD, hf, h0], ?_⟩
      rw [burnD, if_pos hf, if_neg h0]
      simp [refOf, hf]
theorem rerr_ref (D : Dk) (i : Int) : rerrP (refOf D) i = reachD D i := by
  unfold rerrP reachD refOf
  cases D.on <;> rfl
theorem last_find (s : List UInt8) (i : Nat) : ∀ l : List (Nat × List UInt8), lastP s (i : Int) l.reverse = match l.find? (fun q => q.1 == i) with | some q => q.2 | none => s
  | [] => rfl
  | q :: l => by
    have ih := last_find s i l
    unfold lastP at ih ⊢
    rw [List.reverse_cons, List.foldl_append, List.foldl_cons, List.foldl_nil, List.find?_cons]
    by_cases h : q.1 = i
    · have e : (q.1 == i) = true := by simp [h]
      rw [e, if_pos (by rw [h])]
    · have e : (q.1 == i) = false := by simp [h]
      rw [e, if_neg (by omega), ih]
theorem kept_at {c : Nat} (k : Nat → List UInt8) {i : Nat} (h : i < c) : ((List.range c).map k).getD i [] = k i := by
  rw [List.getD_eq_getElem?_getD, List.getElem?_map, List.getElem?_range h]
  rfl
theorem reach_in {D : Dk} {i : Int} (h : reachD D i = 0) : 0 ≤ i ∧ i < D.c := by
  unfold reachD at h
  split at h
  · split at h
    · assumption
    · cases h
  · cases h
theorem read_ref (D : Dk) (i : Int) : readP (refOf D) i = rdB D i := by
  unfold readP rdB
  rw [rerr_ref]
  split
  · rename_i h
    obtain ⟨h1, h2⟩ := reach_in h
    obtain ⟨k, rfl⟩ : ∃ k : Nat, i = (k : Int) := ⟨i.toNat, by omega⟩
    rw [Int.toNat_natCast]
    have e1 : (refOf D).k = (List.range D.c).map D.kept := rfl
    have e2 : (refOf D).ws = D.waits := rfl
    rw [e1, e2, kept_at _ (by omega)]
    have := last_find (D.kept k) k D.waits.reverse
    rw [List.reverse_reverse] at this
    rw [this]
    rfl
  · rfl
theorem set_one {c : Nat} (k : Nat → List UInt8) (q : Nat × List UInt8) : ((List.range c).map k).set q.1 (q.2 ++ (k q.1).drop q.2.length) = (List.range c).map (put1 k q) := by
  apply List.ext_getElem?
  intro j
  rw [List.getElem?_map]
  by_cases h : j < c
  · rw [List.getElem?_range h]
    by_cases e : j = q.1
    · subst e
      rw [List.getElem?_set_self (by simpa using h)]
      simp [put1]
    · rw [List.getElem?_set_ne (fun x => e x.symm), List.getElem?_map, List.getElem?_range h]
      simp [put1, e]
  · rw [List.getElem?_eq_none (by simp; omega), List.getElem?_eq_none (by simp; omega)]
    rfl
theorem set_all {c n : Nat} : ∀ (l : List (Nat × List UInt8)) (k : Nat → List UInt8), (∀ i, (k i).length = n) → (∀ q ∈ l, q.2.length = n) → l.foldl setl ((List.range c).map k) = (List.range c).map (l.foldl put1 k)
  | [], _, _, _ => rfl
  | q :: l, k, hk, hl => by
    have hq := hl q (by simp)
    have e : setl ((List.range c).map k) q = (List.range c).map (put1 k q) := by
      rw [← set_one, List.drop_of_length_le (by rw [hk, hq]; exact Nat.le_refl _), List.append_nil]
      rfl
    rw [List.foldl_cons, List.foldl_cons, e]
    exact set_all l _ (fun i => put1_len hk (by rw [hq]; exact Nat.le_refl _) i) fun r hr => hl r (by simp [hr])
theorem settled_ref {D : Dk} (h : D.ok) {l : List (Nat × List UInt8)} (hl : ∀ q ∈ l, q.2.length = D.n) : settledP (refOf D) l = refOf { D with kept := l.foldl put1 D.kept } := by
  unfold settledP
  have e1 : (refOf D).k = (List.range D.c).map D.kept := rfl
  rw [e1, set_all l _ h.k hl]
  rfl
theorem stays_plain (n keep : Nat) (ws : List (Nat × List UInt8)) : staysL n keep false ws = ws.take keep := by
  apply List.ext_getElem?
  intro j
  rw [staysL_get, List.getElem?_take]
  split
  · cases ws[j]? <;> simp [cutW]
  · rfl
theorem write_ref {D : Dk} (h : D.ok) (i : Int) (s : List UInt8) : writeP (refOf D) i s = refOf (writeD D i s) ∧ werrP (refOf D) i s.length = errD D i s.length := by
  unfold writeP writeD werrP errD
  rw [rerr_ref]
  have e1 : (refOf D).n = D.n := rfl
  rw [e1]
  split
  · split
    · have hb := burns_ref (D := { D with waits := D.waits ++ [(i.toNat, s)] }) h.l1
      have hb2 := burns_ref (D := D) h.l1
      exact ⟨hb.2, by rw [hb2.1]⟩
    · exact ⟨rfl, rfl⟩
  · exact ⟨rfl, rfl⟩
theorem sync_ref {D : Dk} (h : D.ok) : syncP (refOf D) = refOf (syncD D) ∧ synerrP (refOf D) = serrD D := by
  unfold syncP syncD synerrP serrD
  have hb := burns_ref (D := D) h.l1
  rw [hb.1, hb.2]
  cases ho : D.on with
  | false =>
    have e : (refOf D).off = true := by simp [refOf, ho]
    rw [e]
    exact ⟨rfl, rfl⟩
  | true =>
    have e : (refOf D).off = false := by simp [refOf, ho]
    rw [e]
    refine ⟨?_, rfl⟩
    rw [if_neg (by simp), if_pos rfl]
    split
    · rfl
    · have e2 : (refOf (burnD D)).ws = (burnD D).waits := rfl
      rw [e2, settled_ref h.burn (fun q hq => (h.burn.ws q hq).2)]
      rw [decideD, stays_plain, List.take_of_length_le (by rw [burnD_waits]; exact Nat.le_refl _)]
      rfl
theorem serr_ref (D : Dk) (i a : Int) : serrP (refOf D) i a = perrD D i a := rfl
theorem spoil_ref {D : Dk} (i a : Int) (b : UInt8) : spoilP (refOf D) i a b = refOf (spoilD D i a b) := by
  unfold spoilP spoilD
  rw [serr_ref]
  split
  · rename_i h
    have hin : (0 ≤ i ∧ i < D.c) ∧ 0 ≤ a ∧ a < D.n := by
      unfold perrD at h
      split at h
      · assumption
      · cases h
    have e1 : (refOf D).k = (List.range D.c).map D.kept := rfl
    rw [e1, kept_at _ (by omega)]
    have e2 : ((List.range D.c).map D.kept).set i.toNat (((D.kept i.toNat)).set a.toNat ((D.kept i.toNat).getD a.toNat 0 ^^^ b)) = (List.range D.c).map (fun j => if j = i.toNat then (D.kept j).set a.toNat ((D.kept j).getD a.toNat 0 ^^^ b) else D.kept j) := by
      apply List.ext_getElem?
      intro j
      rw [List.getElem?_map]
      by_cases hj : j < D.c
      · rw [List.getElem?_range hj]
        by_cases e : j = i.toNat
        · subst e
          rw [List.getElem?_set_self (by simpa using hj)]
          simp
        · rw [List.getElem?_set_ne (fun x => e x.symm), List.getElem?_map, List.getElem?_range hj]
          simp [e]
      · rw [List.getElem?_eq_none (by simp; omega), List.getElem?_eq_none (by simp; omega)]
        rfl
    rw [e2]
    rfl
  · rfl
theorem fuse_ref (D : Dk) (k : Int) : { refOf D with fuse := max k 0 } = refOf (fuseD D k) := rfl
theorem new_ref (n c : Nat) : (⟨n, c, List.replicate c (List.replicate n 0), [], false, 0, -1⟩ : RP) = refOf (makeD n c) := by
  unfold refOf makeD
  simp only [RP.mk.injEq, true_and]
  refine ⟨?_, by simp⟩
  apply List.ext_getElem?
  intro j
  rw [List.getElem?_map]
  by_cases h : j < c
  · rw [List.getElem?_range h, List.getElem?_replicate, if_pos h]
    rfl
  · rw [List.getElem?_eq_none (by simp; omega), List.getElem?_eq_none (by simp; omega)]
    rfl
theorem stays_torn {n j : Nat} {ws : List (Nat × List UInt8)} {q : Nat × List UInt8} (hq : ws[j]? = some q) : staysL n (j + 1) true ws = ws.take j ++ [(q.1, q.2.take (n / 2))] := by
  have hj : j < ws.length := (List.getElem?_eq_some_iff.1 hq).1
  apply List.ext_getElem?
  intro i
  rw [staysL_get]
  by_cases h : i < j
  · rw [if_pos (by omega), List.getElem?_append_left (by rw [List.length_take]; omega), List.getElem?_take, if_pos h]
    cases ws[i]? with
    | none => rfl
    | some r =>
      rw [Option.map_some, cutW, if_neg (fun e => by have := e.2; omega)]
  · have hl : (ws.take j).length = j := by rw [List.length_take]; omega
    rw [List.getElem?_append_right (by omega), hl]
    by_cases e : i = j
    · subst e
      rw [if_pos (by omega), hq, Nat.sub_self]
      simp [cutW]
    · rw [if_neg (by omega), List.getElem?_eq_none (by simp; omega)]
theorem back_ref {D : Dk} (h : D.ok) (keep : Int) (torn : Bool) : backP (refOf D) keep torn = refOf (backD D keep torn) := by
  obtain ⟨m, hm⟩ : ∃ m, min keep.toNat D.waits.length = m := ⟨_, rfl⟩
  have hF := h.fall
  have e2 : (fallD D).waits = D.waits := fallD_waits D
  have e3 := fallD_n D
  have hk : (fallD D).kept = D.kept := by
    unfold fallD
    split <;> rfl
  have hlen : ∀ l : List (Nat × List UInt8), (∀ q ∈ l, q ∈ D.waits) → ∀ q ∈ l, q.2.length = (fallD D).n := fun l hl q hq => by
    rw [e3.1]
    exact (h.ws q (hl q hq)).2
  have main : (if torn = true ∧ 0 < m then settledP (settledP (refOf (fallD D)) (D.waits.take (m - 1))) [tornP D.n ((D.waits.take (m - 1)).foldl setl ((List.range D.c).map D.kept)) (D.waits.getD (m - 1) (0, []))] else settledP (refOf (fallD D)) (D.waits.take m)) =
      refOf { fallD D with kept := (staysL (fallD D).n m torn (fallD D).waits).foldl put1 (fallD D).kept } := by
    rw [e2, e3.1]
    by_cases ht : torn = true ∧ 0 < m
    · rw [if_pos ht]
      obtain ⟨rfl, h0⟩ := ht
      obtain ⟨j, rfl⟩ : ∃ j, m = j + 1 := ⟨m - 1, by omega⟩
      have hj : j < D.waits.length := by omega
      obtain ⟨q, hq⟩ : ∃ q, D.waits[j]? = some q := ⟨_, List.getElem?_eq_getElem hj⟩
      have hqw := h.ws q (List.mem_of_getElem? hq)
      rw [stays_torn hq, Nat.add_sub_cancel, settled_ref hF (hlen _ fun r hr => List.mem_of_mem_take hr), List.foldl_append, hk]
      have e4 : D.waits.getD j (0, []) = q := by rw [List.getD_eq_getElem?_getD, hq]; rfl
      rw [e4, set_all _ _ h.k (fun r hr => (h.ws r (List.mem_of_mem_take hr)).2)]
      obtain ⟨K, hK⟩ : ∃ K, (D.waits.take j).foldl put1 D.kept = K := ⟨_, rfl⟩
      rw [hK]
      unfold settledP tornP
      simp only [List.foldl_cons, List.foldl_nil]
      rw [kept_at _ hqw.1]
      have e5 : (refOf { fallD D with kept := K }).k = (List.range D.c).map K := by
        show (List.range (fallD D).c).map K = _
        rw [e3.2]
      have e6 : (q.2.take (D.n / 2)).length = D.n / 2 := by rw [List.length_take, hqw.2]; omega
      have e7 := set_one (c := D.c) K (q.1, q.2.take (D.n / 2))
      simp only [e6] at e7
      rw [e5]
      unfold setl
      simp only
      rw [e7]
      unfold refOf
      simp only [e3.2]
    · rw [if_neg ht, settled_ref hF (hlen _ fun r hr => List.mem_of_mem_take hr)]
      have e4 : staysL D.n m torn D.waits = D.waits.take m := by
        cases torn with
        | false => exact stays_plain _ _ _
        | true =>
          have : m = 0 := by
            rcases Nat.eq_zero_or_pos m with e | e
            · exact e
            · exact absurd ⟨rfl, e⟩ ht
          subst this
          rfl
      rw [e4]
  have e1 : backP (refOf D) keep torn = { (if torn = true ∧ 0 < m then settledP (settledP (fallsP (refOf D)) (D.waits.take (m - 1))) [tornP D.n ((D.waits.take (m - 1)).foldl setl ((List.range D.c).map D.kept)) (D.waits.getD (m - 1) (0, []))] else settledP (fallsP (refOf D)) (D.waits.take m)) with ws := [], off := false, fuse := -1 } := by
    rw [← hm]
    rfl
  rw [e1, falls_ref, main]
  unfold backD
  rw [hm]
  rfl
end Go.Proofs.Ytcpoppfifadbiaa
