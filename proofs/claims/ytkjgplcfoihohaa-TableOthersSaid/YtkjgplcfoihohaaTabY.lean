/-
  A rule that isn't asked for changes nothing of what an action does: plain mathematics; append of cells in a region that draws its order.
-/
import Derived.Test.YtkjgplcfoihohaaTabX
namespace Go.Proofs.Ytkjgplcfoihohaa
open Go.RowKit

theorem idx_find (sa ac pa : Int) (vars : List Int) (arg : Int) (l : List RuM) : l.find? (isFor sa ac pa vars arg) = (idxO (takX sa ac pa vars arg l) l.length).bind fun k => l[k]? := by
  cases h : idxO (takX sa ac pa vars arg l) l.length with
  | none =>
    have hn := idx_not h
    rw [Option.bind_none, List.find?_eq_none]
    intro x hx
    obtain ⟨k, hk, rfl⟩ := List.getElem_of_mem hx
    have := hn k hk
    rw [takX_at (List.getElem?_eq_getElem hk)] at this
    simp [this]
  | some k =>
    obtain ⟨hk, hp, hb⟩ := idx_some h
    rw [Option.bind_some, List.getElem?_eq_getElem hk, List.find?_eq_some_iff_getElem]
    rw [takX_at (List.getElem?_eq_getElem hk)] at hp
    refine ⟨hp, k, hk, rfl, fun j hj => ?_⟩
    have := hb j hj
    rw [takX_at (List.getElem?_eq_getElem (show j < l.length by omega))] at this
    simp [this]
theorem fireR_find (st vs : Int) (l : List RuM) (sa ac pa : Int) (vars : List Int) (arg : Int) :
    fireR st vs l sa ac pa vars arg = if fireB st vs l vars then (match l.find? (isFor sa ac pa vars arg) with | none => (0, [], [], 13) | some r => fireOut r.tt (setAllR r.se.l vars arg) (emAllR r.em.l vars arg)) else (0, [], [], 10) := by
  rw [idx_find]
  unfold fireR
  cases h : idxO (takX sa ac pa vars arg l) l.length with
  | none => rfl
  | some k =>
    simp only [Option.bind_some]
    cases hk : l[k]? <;> rfl
theorem mayT_mem {st vs : Int} {l : List RuM} (h : mayT st vs l = true) : ∀ r ∈ l, ruB st vs r = true := fun r hr => by
  obtain ⟨k, hk, rfl⟩ := List.getElem_of_mem hr
  exact mayT_rule h (List.getElem?_eq_getElem hk)
theorem mayT_of_mem {st vs : Int} {l : List RuM} (h1 : 1 ≤ st ∧ st ≤ 32) (h2 : 0 ≤ vs ∧ vs ≤ 8) (h3 : l.length ≤ 32) (h : ∀ r ∈ l, ruB st vs r = true) : mayT st vs l = true := mayT_mk h1 h2 h3 fun _ x hx => h x (List.mem_of_getElem? hx)
/-- a rule put in -/
def putIn (l : List RuM) (a : Nat) (r : RuM) : List RuM := (l.take a ++ [r]) ++ l.drop a
theorem putIn_len (l : List RuM) (a : Nat) (r : RuM) (h : a ≤ l.length) : (putIn l a r).length = l.length + 1 := by unfold putIn; simp; omega
theorem putIn_mem {l : List RuM} {a : Nat} {r x : RuM} (h : x ∈ putIn l a r) : x ∈ l ∨ x = r := by
  unfold putIn at h
  simp only [List.mem_append, List.mem_singleton] at h
  rcases h with (h | h) | h
  · exact .inl (List.mem_of_mem_take h)
  · exact .inr h
  · exact .inl (List.mem_of_mem_drop h)
theorem mem_putIn {l : List RuM} {a : Nat} {r x : RuM} (h : x ∈ l) : x ∈ putIn l a r := by
  unfold putIn
  rw [← List.take_append_drop a l] at h
  simp only [List.mem_append, List.mem_singleton] at h ⊢
  rcases h with h | h
  · exact .inl (.inl h)
  · exact .inr h
theorem find_putIn {l : List RuM} {a : Nat} {r : RuM} {p : RuM → Bool} (h : p r = false) : (putIn l a r).find? p = l.find? p := by
  unfold putIn
  conv => rhs; rw [← List.take_append_drop a l]
  rw [List.find?_append, List.find?_append, List.find?_append]
  cases (l.take a).find? p <;> simp [h]
theorem fire_others {st vs : Int} {l : List RuM} {a : Nat} {r : RuM} {sa ac pa : Int} {vars : List Int} {arg : Int} (hn : l.length ≤ 31) (h : mayT st vs (putIn l a r) = true) (hr : isFor sa ac pa vars arg r = false) :
    fireR st vs (putIn l a r) sa ac pa vars arg = fireR st vs l sa ac pa vars arg := by
  have hm := mayT_num h
  have hl : mayT st vs l = true := mayT_of_mem hm.1 hm.2.1 (by omega) fun x hx => mayT_mem h x (mem_putIn hx)
  rw [fireR_find, fireR_find, find_putIn hr]
  unfold fireB
  rw [h, hl]
theorem isFor_not {sa ac pa : Int} {vars : List Int} {arg : Int} {r : RuM} (h : ¬(r.fr = sa ∧ r.ac = ac ∧ r.pa = pa)) : isFor sa ac pa vars arg r = false := by
  unfold isFor
  by_cases h1 : r.fr = sa
  · by_cases h2 : r.ac = ac
    · by_cases h3 : r.pa = pa
      · exact absurd ⟨h1, h2, h3⟩ h
      · simp [h3]
    · simp [h2]
  · simp [h1]
theorem putIn_cells (l : List RuM) (a : Nat) (r : RuM) : ((l.take a).flatMap RuM.cs ++ RuM.cs r) ++ (l.drop a).flatMap RuM.cs = (putIn l a r).flatMap RuM.cs := by
  unfold putIn
  simp [List.flatMap_append]

section
variable {P : Program}
/-- append of cells onto a row of one's own, at a step of a region that draws its order -/
theorem step_append_cells (w : World) {ops : Array Oper} {o : Oper} {a : Act} {K : Act → World → Prop} {Q : Exit → Act → World → Prop} {E : Prop} (hgd : Region.wanted o (yielded ops a.tmps) = true) (s x : Operand) (t : TypeId)
    (ho : o.op = .call { callee := .builtin .append, args := #[s, x], argTypes := #[t, t] })
    (base : Nat) (e : TypeId) (z : Value) (size bytes : Nat) (hinfo : (P.info? e).map (fun i => (i.zero, i.size, i.bytes)) = some (some z, size, bytes)) (hzs : z.cells.size = size) (hsz : 0 < size) (ht : P.underlying t = some (.slice e))
    (v : Value) (n : Nat) (xs : List Value) (hs : a.eval s = v) (hown : w.ownsRow base e size v n xs)
    (B : Nat) (A : Option Addr) (m c : Nat) (news : List Value) (hx : a.eval x = .slice A m c) (hl : news.length = m * size) (hr : Sees w B A news) (h1 : ∀ u ∈ news, u.oneCell' = true) (hm : n + m ≤ 1000000) (hb : bytes ≤ 1000) (hbase : base ≤ w.heap.size)
    (r : Nat) (hr2 : n + m = r) (ys : List Value) (hys : xs ++ news = ys)
    (h : ∀ A' c' w', w'.ownsRow base e size (.slice A' r c') r ys → w.grownBy w' v.ownBlock → (∀ k, (Value.slice A' r c').ownBlock = some k → v.ownBlock = some k ∨ w.heap.size ≤ k) → K (a.put o.dst (.slice A' r c')) w') :
    if Region.wanted o (yielded ops a.tmps) = true then Oper.wp P o a w K Q else E := by
  rw [if_pos hgd]
  obtain ⟨i0, hi, hz0, hz1, hz2⟩ := info_parts hinfo
  subst hr2 hys
  obtain ⟨v', w', hrun, h2, h3, h4⟩ := run_append_rows (P := P) w base t o.type e i0 z size bytes ht hi hz0 hz1 hz2 hzs hsz v n xs hown B A m c news hl hr h1 (by unfold maxLen; omega)
    (Nat.le_trans (Nat.mul_le_mul hm hb) (by decide)) hbase
  have hv : ∃ A' c', v' = .slice A' (n + m) c' := by
    rcases h2.2 with ⟨rfl, h0⟩ | ⟨g, cap, cur, rfl, _⟩
    · exact ⟨none, 0, by rw [h0]⟩
    · exact ⟨_, _, rfl⟩
  obtain ⟨A', c', rfl⟩ := hv
  unfold Oper.wp execOp
  simp only [ho, resolve, invoke, builtin, Sem.run_bind, Sem.run_pure, Result.andThen_ok, List.map_toArray, List.map_cons, List.map_nil, hs, hx, hrun]
  refine h A' c' w' h2 h3 fun k hk => ?_
  rcases h4 with h4 | h4
  · exact .inl (h4 ▸ hk)
  · rw [h4] at hk
    injection hk with hk
    exact .inr (by omega)
end
end Go.Proofs.Ytkjgplcfoihohaa
