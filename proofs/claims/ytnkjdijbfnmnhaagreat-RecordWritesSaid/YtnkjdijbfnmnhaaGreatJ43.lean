/-
  Texts of this claim put together: Fresh, Aside14.
-/
import Derived.Test.YtnkjdijbfnmnhaaGreatJ35
import Derived.Test.YtnkjdijbfnmnhaaGreatJ34
import Derived.Below
import Derived.OneCell
import Derived.Test.YtnkjdijbfnmnhaaGreatJ05
/-
  Registers in rows of one's own; slices.Clone of their lists; contract of reg's Clone.
-/
namespace Go.Proofs.YtnkjdijbfnmnhaaGreat
open Go.RowKit

theorem own_some {w : World} {base n c size : Nat} {e : TypeId} {A : Option Addr} {xs : List Value} (h : w.ownsRow base e size (.slice A n c) n xs) (hn : 0 < n) : ∃ g, A = some ⟨g, 0, none⟩ ∧ base ≤ g ∧ g < w.heap.size ∧ ∃ cur, w.heap[g]? = some (.cells cur e (0, 0)) := by
  rcases h.2 with ⟨_, h0⟩ | ⟨g, cap, cur, hv, hb, hg, _⟩
  · omega
  · injection hv with hA
    exact ⟨g, hA, hb, (Array.getElem?_eq_some_iff.1 hg).1, cur, hg⟩
/-- rows of other kinds lie in other blocks -/
theorem own_apart {w : World} {b1 b2 s1 s2 n1 n2 : Nat} {e1 e2 : TypeId} {v1 v2 : Value} {x1 x2 : List Value} (h1 : w.ownsRow b1 e1 s1 v1 n1 x1) (h2 : w.ownsRow b2 e2 s2 v2 n2 x2) (he : e1 ≠ e2) {k : Nat} (hk : v2.ownBlock = some k) : v1.ownBlock ≠ some k := by
  intro h
  rcases h1.2 with ⟨rfl, _⟩ | ⟨g, cap, cur, rfl, _, hg, _⟩
  · simp [Value.ownBlock] at h
  · rcases h2.2 with ⟨rfl, _⟩ | ⟨g2, cap2, cur2, rfl, _, hg2, _⟩
    · simp [Value.ownBlock] at hk
    · simp only [Value.ownBlock, Option.some.injEq] at h hk
      subst h hk
      rw [hg] at hg2
      injection hg2 with hg2
      injection hg2 with _ hg2
      exact he hg2
theorem own_far {w : World} {b s n k : Nat} {e : TypeId} {v : Value} {x : List Value} (h : w.ownsRow b e s v n x) (hk : k < b) : v.ownBlock ≠ some k := fun e => by
  have := (h.lt k e).1
  omega
theorem BoxAt.apart {w : World} {g b i : Nat} {cs : Array Value} {t : TypeId} {u : Value} (h : BoxAt w g cs t) (hne : g ≠ b) : BoxAt (w.setCell ⟨b, i, none⟩ u) g cs t := (Below.heap_setCell w ⟨b, i, none⟩ u g hne).trans h
theorem flat_set {α : Type} {cs : α → List Value} {q : Nat} (hcs : ∀ x, (cs x).length = q) : ∀ (l : List α) (k j : Nat) (x x' : α) (u : Value), l[k]? = some x → j < q → cs x' = (cs x).set j u → (l.flatMap cs).set (k * q + j) u = (l.set k x').flatMap cs := by
  intro l
  induction l with
  | nil => intro k j x x' u h; simp at h
  | cons y l ih =>
    intro k j x x' u h hj hx
    match k, h with
    | 0, h =>
      simp at h
      subst h
      rw [Nat.zero_mul, Nat.zero_add, List.flatMap_cons, List.set_append_left _ _ (by rw [hcs]; exact hj), List.set_cons_zero, List.flatMap_cons, hx]
    | k + 1, h =>
      rw [List.flatMap_cons, List.set_append_right _ _ (by rw [hcs, Nat.succ_mul]; omega), List.set_cons_succ, List.flatMap_cons, hcs, show (k + 1) * q + j - q = k * q + j by rw [Nat.succ_mul]; omega, ih k j x x' u (by simpa using h) hj hx]

def OwnVars (w : World) (lo : Nat) (s : IntS) : Prop := w.ownsRow lo 2 1 (.slice s.A s.l.length s.c) s.l.length (iv s.l) ∧ ∀ y ∈ s.l, I64 y
/-- a register in rows of one's own from lo on -/
structure Fresh (w : World) (lo : Nat) (x : RegM) : Prop where
  num : U8 x.ki ∧ U64 x.inc ∧ I64 x.st ∧ U64 x.la
  va : OwnVars w lo x.va
  dn : w.ownsRow lo 106 6 (.slice x.dn.A x.dn.l.length x.dn.c) x.dn.l.length (x.dn.l.flatMap DoneM.cs)
  di : ∀ d ∈ x.dn.l, (U8 d.cl ∧ U64 d.sq ∧ I64 d.er ∧ U64 d.inc ∧ I64 d.st) ∧ OwnVars w lo d.va
  ou : w.ownsRow lo 108 4 (.slice x.ou.A x.ou.l.length x.ou.c) x.ou.l.length (x.ou.l.flatMap celC)
  oi : ∀ c ∈ x.ou.l, celIn c
  ma : w.ownsRow lo 110 3 (.slice x.ma.A x.ma.l.length x.ma.c) x.ma.l.length (x.ma.l.flatMap mrkC)
  mi : ∀ m ∈ x.ma.l, mrkIn m
theorem OwnVars.ok {w : World} {lo : Nat} {s : IntS} (h : OwnVars w lo s) : intsOk w w.heap.size s :=
  ⟨(own_bounds h.1).1, (own_bounds h.1).2, by have := Sees.ownRow h.1; rw [← iv_flat] at this; exact this, h.2⟩
theorem OwnVars.below {w w' : World} {lo : Nat} {s : IntS} (h : OwnVars w lo s) (hb : Below w.heap.size w w') : OwnVars w' lo s := ⟨own_below h.1 hb, h.2⟩
theorem OwnVars.far {w : World} {lo b i : Nat} {s : IntS} {u : Value} (h : OwnVars w lo s) (hb : b < lo) : OwnVars (w.setCell ⟨b, i, none⟩ u) lo s := ⟨ownsRow_setCell_below h.1 hb u, h.2⟩
theorem OwnVars.less {w : World} {lo lo' : Nat} {s : IntS} (h : OwnVars w lo s) (hb : lo' ≤ lo) : OwnVars w lo' s := ⟨own_mono h.1 hb, h.2⟩
theorem OwnVars.apart {w : World} {lo i b2 s2 n2 k : Nat} {s : IntS} {u v2 : Value} {e2 : TypeId} {x2 : List Value} (h : OwnVars w lo s) (h2 : w.ownsRow b2 e2 s2 v2 n2 x2) (he : 2 ≠ e2) (hk : v2.ownBlock = some k) : OwnVars (w.setCell ⟨k, i, none⟩ u) lo s :=
  ⟨ownsRow_setCell_other h.1 (own_apart h.1 h2 he hk) u, h.2⟩
theorem Fresh.ok {w : World} {lo : Nat} {x : RegM} (h : Fresh w lo x) : RegM.ok w w.heap.size x :=
  ⟨h.num, h.va.ok, ⟨(own_bounds h.dn).1, (own_bounds h.dn).2, Sees.ownRow h.dn, fun d hd => ⟨(h.di d hd).1, (h.di d hd).2.ok⟩⟩,
   ⟨(own_bounds h.ou).1, (own_bounds h.ou).2, Sees.ownRow h.ou, h.oi⟩, ⟨(own_bounds h.ma).1, (own_bounds h.ma).2, Sees.ownRow h.ma, h.mi⟩⟩
theorem Fresh.below {w w' : World} {lo : Nat} {x : RegM} (h : Fresh w lo x) (hb : Below w.heap.size w w') : Fresh w' lo x :=
  ⟨h.num, h.va.below hb, own_below h.dn hb, fun d hd => ⟨(h.di d hd).1, (h.di d hd).2.below hb⟩, own_below h.ou hb, h.oi, own_below h.ma hb, h.mi⟩
theorem Fresh.far {w : World} {lo b i : Nat} {x : RegM} {u : Value} (h : Fresh w lo x) (hb : b < lo) : Fresh (w.setCell ⟨b, i, none⟩ u) lo x :=
  ⟨h.num, h.va.far hb, ownsRow_setCell_below h.dn hb u, fun d hd => ⟨(h.di d hd).1, (h.di d hd).2.far hb⟩, ownsRow_setCell_below h.ou hb u, h.oi, ownsRow_setCell_below h.ma hb u, h.mi⟩

theorem don_one (l : List DoneM) : ∀ u ∈ l.flatMap DoneM.cs, u.oneCell' = true := by
  intro u hu
  obtain ⟨x, _, hx⟩ := List.mem_flatMap.1 hu
  simp [DoneM.cs, Sl.v] at hx
  rcases hx with rfl | rfl | rfl | rfl | rfl | rfl <;> rfl
theorem cel_one (l : List CelM) : ∀ u ∈ l.flatMap celC, u.oneCell' = true := by
  intro u hu
  obtain ⟨x, _, hx⟩ := List.mem_flatMap.1 hu
  simp [celC] at hx
  rcases hx with rfl | rfl | rfl | rfl <;> rfl
theorem mrk_one (l : List MrkM) : ∀ u ∈ l.flatMap mrkC, u.oneCell' = true := by
  intro u hu
  obtain ⟨x, _, hx⟩ := List.mem_flatMap.1 hu
  simp [mrkC] at hx
  rcases hx with rfl | rfl | rfl <;> rfl

/-- what Clone leaves -/
def Clones (r : RegM) (w : World) (e : Ending) (w' : World) : Prop := ∃ x : RegM, e = .returned x.v ∧ x.p = r.p ∧ Fresh w' (w.heap.size + 2) x ∧ Below w.heap.size w w'
theorem list_mapset {α β : Type} {f : α → β} {l : List α} {k : Nat} {x y : α} (h : l[k]? = some x) (e : f y = f x) : (l.set k y).map f = l.map f := by
  rw [List.map_set, e]
  apply List.ext_getElem?
  intro i
  rw [List.getElem?_set]
  by_cases hi : k = i
  · subst hi
    rw [if_pos rfl, List.getElem?_map, h]
    split
    · rfl
    · rename_i hn
      exact absurd (by rw [List.length_map]; exact (List.getElem?_eq_some_iff.1 h).1) hn
  · rw [if_neg hi]

end Go.Proofs.YtnkjdijbfnmnhaaGreat

/-
  Registers in rows of one's own, where a block ahead of them is written.
-/
namespace Go.Proofs.YtnkjdijbfnmnhaaGreat
open Go.RowKit

theorem Fresh.other14 {w w' : World} {lo g : Nat} {x : RegM} (h : Fresh w lo x) (hg : w.grownBy w' (some g)) (hz : g < lo) : Fresh w' lo x := by
  have far : ∀ {e : TypeId} {s n : Nat} {v : Value} {xs : List Value}, w.ownsRow lo e s v n xs → w'.ownsRow lo e s v n xs := fun ho => own_other9 ho (fun e => own_far ho hz e.symm) hg
  exact ⟨h.num, ⟨far h.va.1, h.va.2⟩, far h.dn, fun d hq => ⟨(h.di d hq).1, far (h.di d hq).2.1, (h.di d hq).2.2⟩, far h.ou, h.oi, far h.ma, h.mi⟩
theorem Aside14.fresh {w : World} {lo z : Nat} {x : RegM} (h : Fresh w lo x) (hz : z < lo) : ∀ u, w.grownBy u (some z) → RegM.ok u u.heap.size x := fun _ hu => (h.other14 hu hz).ok
theorem Aside14.fresh' {w u : World} {lo z : Nat} {x : RegM} (h : Fresh w lo x) (hz : z < lo) (hu : w.grownBy u (some z)) : Fresh u lo x := h.other14 hu hz
theorem Aside14.less {w : World} {lo lo' : Nat} {x : RegM} (h : Fresh w lo x) (hl : lo' ≤ lo) : Fresh w lo' x :=
  ⟨h.num, h.va.less hl, own_mono h.dn hl, fun d hd => ⟨(h.di d hd).1, (h.di d hd).2.less hl⟩, own_mono h.ou hl, h.oi, own_mono h.ma hl, h.mi⟩
end Go.Proofs.YtnkjdijbfnmnhaaGreat
