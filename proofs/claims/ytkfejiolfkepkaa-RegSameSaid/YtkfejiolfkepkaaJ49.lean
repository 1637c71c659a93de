/-
  Texts of this claim put together: Wk.
-/
import Derived.Test.YtkfejiolfkepkaaJ48
/-
  Rows of one's own of which only where they lie is known, while their numbers are written over.
-/
namespace Go.Proofs.Ytkfejiolfkepkaa
open Go.RowKit

/-- nothing below lo or from hi on has changed -/
def FR (lo hi : Nat) (w w' : World) : Prop := Below lo w w' ∧ (∀ k, hi ≤ k → w'.heap[k]? = w.heap[k]?) ∧ w'.heap.size = w.heap.size
theorem FR.refl (lo hi : Nat) (w : World) : FR lo hi w w := ⟨Below.refl _ _, fun _ _ => rfl, rfl⟩
theorem FR.store {lo hi g i : Nat} {w w' : World} {u : Value} (h : FR lo hi w w') (h1 : lo ≤ g) (h2 : g < hi) : FR lo hi w (w'.setCell ⟨g, i, none⟩ u) :=
  ⟨h.1.setCell (p := ⟨g, i, none⟩) h1 u, fun k hk => (Below.heap_setCell w' ⟨g, i, none⟩ u k (by show k ≠ g; omega)).trans (h.2.1 k hk), by simpa [World.setCell] using h.2.2⟩
theorem FR.box {lo hi z : Nat} {w w' : World} {cs : Array Value} {t : TypeId} (h : FR lo hi w w') (hb : BoxAt w z cs t) (hz : hi ≤ z) : BoxAt w' z cs t := (h.2.1 z hz).trans hb
theorem own_since {w w' : World} {base s n : Nat} {e : TypeId} {v : Value} {x : List Value} (h : w.ownsRow base e s v n x) (hk : ∀ k, base ≤ k → w'.heap[k]? = w.heap[k]?) : w'.ownsRow base e s v n x := by
  refine ⟨h.1, ?_⟩
  rcases h.2 with h0 | ⟨g, cap, cur, rfl, hb, hg, h2⟩
  · exact .inl h0
  · exact .inr ⟨g, cap, cur, rfl, hb, (hk g hb).trans hg, h2⟩
theorem FR.fresh {lo hi l2 : Nat} {w w' : World} {x : RegM} (h : FR lo hi w w') (hf : Fresh w l2 x) (hl : hi ≤ l2) : Fresh w' l2 x := by
  have hk : ∀ k, l2 ≤ k → w'.heap[k]? = w.heap[k]? := fun k hk => h.2.1 k (by omega)
  exact ⟨hf.num, ⟨own_since hf.va.1 hk, hf.va.2⟩, own_since hf.dn hk, fun d hd => ⟨(hf.di d hd).1, own_since (hf.di d hd).2.1 hk, (hf.di d hd).2.2⟩, own_since hf.ou hk, hf.oi, own_since hf.ma hk, hf.mi⟩

def WkV (w : World) (lo hi : Nat) (A : Option Addr) (n c : Nat) : Prop := (∃ l : List Int, l.length = n ∧ w.ownsRow lo 2 1 (.slice A n c) n (iv l)) ∧ ∀ ad, A = some ad → ad.block < hi
structure Wk (w : World) (lo hi : Nat) (x : RegM) : Prop where
  va : WkV w lo hi x.va.A x.va.l.length x.va.c
  dn : ∃ dk : List DoneM, dk.length = x.dn.l.length ∧ dk.map DoneM.va = x.dn.l.map DoneM.va ∧ w.ownsRow lo 47 6 (.slice x.dn.A x.dn.l.length x.dn.c) x.dn.l.length (dk.flatMap DoneM.cs)
  dh : ∀ ad, x.dn.A = some ad → ad.block < hi
  dv : ∀ d ∈ x.dn.l, WkV w lo hi d.va.A d.va.l.length d.va.c
  ou : ∃ l : List CelM, l.length = x.ou.l.length ∧ w.ownsRow lo 49 4 (.slice x.ou.A x.ou.l.length x.ou.c) x.ou.l.length (l.flatMap celC)
  oh : ∀ ad, x.ou.A = some ad → ad.block < hi
  ma : ∃ l : List MrkM, l.length = x.ma.l.length ∧ w.ownsRow lo 51 3 (.slice x.ma.A x.ma.l.length x.ma.c) x.ma.l.length (l.flatMap mrkC)
  mh : ∀ ad, x.ma.A = some ad → ad.block < hi
theorem own_high {w : World} {base s n c : Nat} {e : TypeId} {A : Option Addr} {x : List Value} (h : w.ownsRow base e s (.slice A n c) n x) : ∀ ad, A = some ad → ad.block < w.heap.size := by
  intro ad e1
  subst e1
  rcases h.2 with ⟨h0, _⟩ | ⟨g, cap, cur, hv, _, hg, _⟩
  · injection h0 with h0
    cases h0
  · injection hv with hv
    injection hv with hv
    subst hv
    exact (Array.getElem?_eq_some_iff.1 hg).1
theorem Fresh.wk {w : World} {lo : Nat} {x : RegM} (h : Fresh w lo x) : Wk w lo w.heap.size x :=
  ⟨⟨⟨_, rfl, h.va.1⟩, own_high h.va.1⟩, ⟨_, rfl, rfl, h.dn⟩, own_high h.dn, fun d hd => ⟨⟨_, rfl, (h.di d hd).2.1⟩, own_high (h.di d hd).2.1⟩, ⟨_, rfl, h.ou⟩, own_high h.ou, ⟨_, rfl, h.ma⟩, own_high h.ma⟩
theorem WkV.below {w w' : World} {lo hi n c : Nat} {A : Option Addr} (h : WkV w lo hi A n c) (hb : Below w.heap.size w w') : WkV w' lo hi A n c := by
  obtain ⟨⟨l, h1, h2⟩, h3⟩ := h
  exact ⟨⟨l, h1, own_below h2 hb⟩, h3⟩
theorem Wk.below {w w' : World} {lo hi : Nat} {x : RegM} (h : Wk w lo hi x) (hb : Below w.heap.size w w') : Wk w' lo hi x := by
  obtain ⟨h1, ⟨dk, d1, d2, d3⟩, h3, h4, ⟨ol, o1, o2⟩, h6, ⟨ml, m1, m2⟩, h8⟩ := h
  exact ⟨h1.below hb, ⟨dk, d1, d2, own_below d3 hb⟩, h3, fun d hd => (h4 d hd).below hb, ⟨ol, o1, own_below o2 hb⟩, h6, ⟨ml, m1, own_below m2 hb⟩, h8⟩
theorem own_nil_set {w : World} {base s n c : Nat} {e : TypeId} {x : List Value} {p : Addr} {u : Value} (h : w.ownsRow base e s (.slice none n c) n x) : (w.setCell p u).ownsRow base e s (.slice none n c) n x :=
  ownsRow_setCell_other h (by simp [Value.ownBlock]) u
theorem WkV.int {w : World} {lo hi n c g i : Nat} {A : Option Addr} {y : Int} (h : WkV w lo hi A n c) : WkV (w.setCell ⟨g, i, none⟩ (.int .i64 y)) lo hi A n c := by
  obtain ⟨⟨l, h1, h2⟩, h3⟩ := h
  refine ⟨?_, h3⟩
  by_cases hg : (Value.slice A n c).ownBlock = some g
  · rcases h2.2 with ⟨h0, h00⟩ | ⟨g', cap, cur, hv, _⟩
    · injection h0 with h0
      subst h0
      exact ⟨l, h1, own_nil_set h2⟩
    · injection hv with hv
      subst hv
      simp only [Value.ownBlock, Option.some.injEq] at hg
      subst hg
      refine ⟨l.set i y, by rw [List.length_set]; exact h1, ?_⟩
      have := (h2.stored i (.int .i64 y)).1
      rwa [show (iv l).set i (.int .i64 y) = iv (l.set i y) by unfold iv; rw [List.map_set]] at this
  · exact ⟨l, h1, ownsRow_setCell_other h2 hg _⟩
theorem WkV.apart {w : World} {lo hi n c i b2 s2 n2 k : Nat} {A : Option Addr} {u v2 : Value} {e2 : TypeId} {x2 : List Value} (h : WkV w lo hi A n c) (h2 : w.ownsRow b2 e2 s2 v2 n2 x2) (he : 2 ≠ e2) (hk : v2.ownBlock = some k) : WkV (w.setCell ⟨k, i, none⟩ u) lo hi A n c := by
  obtain ⟨⟨l, h1, h3⟩, h4⟩ := h
  exact ⟨⟨l, h1, ownsRow_setCell_other h3 (own_apart h3 h2 he hk) u⟩, h4⟩
theorem own_other {w : World} {b1 s1 n1 b2 s2 n2 k i : Nat} {e1 e2 : TypeId} {v1 v2 u : Value} {x1 x2 : List Value} (h : w.ownsRow b1 e1 s1 v1 n1 x1) (h2 : w.ownsRow b2 e2 s2 v2 n2 x2) (he : e1 ≠ e2) (hk : v2.ownBlock = some k) : (w.setCell ⟨k, i, none⟩ u).ownsRow b1 e1 s1 v1 n1 x1 :=
  ownsRow_setCell_other h (own_apart h h2 he hk) u
/-- a number in a row of numbers is written over -/
theorem Wk.int {w : World} {lo hi i b2 s2 n2 g : Nat} {x : RegM} {v2 : Value} {x2 : List Value} {y : Int} (h : Wk w lo hi x) (h2 : w.ownsRow b2 2 s2 v2 n2 x2) (hk : v2.ownBlock = some g) : Wk (w.setCell ⟨g, i, none⟩ (.int .i64 y)) lo hi x := by
  obtain ⟨h1, ⟨dk, d1, d2, d3⟩, h3, h4, ⟨ol, o1, o2⟩, h6, ⟨ml, m1, m2⟩, h8⟩ := h
  exact ⟨h1.int, ⟨dk, d1, d2, own_other d3 h2 (by decide) hk⟩, h3, fun d hd => (h4 d hd).int, ⟨ol, o1, own_other o2 h2 (by decide) hk⟩, h6, ⟨ml, m1, own_other m2 h2 (by decide) hk⟩, h8⟩
theorem map_setva {l : List DoneM} {k : Nat} {x y : DoneM} (h : l[k]? = some x) (e : y.va = x.va) : (l.set k y).map DoneM.va = l.map DoneM.va := list_mapset h e
theorem Wk.dns {w : World} {lo hi k g : Nat} {x : RegM} {dk : List DoneM} {d : DoneM} {y : Int} (h : Wk w lo hi x) (hA : x.dn.A = some ⟨g, 0, none⟩) (d1 : dk.length = x.dn.l.length) (d2 : dk.map DoneM.va = x.dn.l.map DoneM.va)
    (d3 : w.ownsRow lo 47 6 (.slice x.dn.A x.dn.l.length x.dn.c) x.dn.l.length (dk.flatMap DoneM.cs)) (hd : dk[k]? = some d) : Wk (w.setCell ⟨g, k * 6 + 1, none⟩ (.int .u64 y)) lo hi x := by
  obtain ⟨h1, -, h3, h4, ⟨ol, o1, o2⟩, h6, ⟨ml, m1, m2⟩, h8⟩ := h
  have d4 := d3
  rw [hA] at d4
  have hk : (Value.slice x.dn.A x.dn.l.length x.dn.c).ownBlock = some g := by rw [hA]; rfl
  refine ⟨h1.apart d3 (by decide) hk, ⟨dk.set k ⟨d.cl, y, d.er, d.inc, d.st, d.va⟩, by rw [List.length_set]; exact d1, by rw [map_setva (y := ⟨d.cl, y, d.er, d.inc, d.st, d.va⟩) hd rfl]; exact d2, ?_⟩, h3, fun d hd => (h4 d hd).apart d3 (by decide) hk, ⟨ol, o1, own_other o2 d3 (by decide) hk⟩, h6, ⟨ml, m1, own_other m2 d3 (by decide) hk⟩, h8⟩
  have := (d4.stored (k * 6 + 1) (.int .u64 y)).1
  rw [flat_set (cs := DoneM.cs) (q := 6) (fun _ => rfl) dk k 1 d ⟨d.cl, y, d.er, d.inc, d.st, d.va⟩ _ hd (by omega) rfl] at this
  rw [hA]
  exact this
theorem Wk.ous {w : World} {lo hi k g : Nat} {x : RegM} {l : List CelM} {d : CelM} {y : Int} (h : Wk w lo hi x) (hA : x.ou.A = some ⟨g, 0, none⟩) (o1 : l.length = x.ou.l.length)
    (o2 : w.ownsRow lo 49 4 (.slice x.ou.A x.ou.l.length x.ou.c) x.ou.l.length (l.flatMap celC)) (hd : l[k]? = some d) : Wk (w.setCell ⟨g, k * 4, none⟩ (.int .u64 y)) lo hi x := by
  obtain ⟨h1, ⟨dk, d1, d2, d3⟩, h3, h4, -, h6, ⟨ml, m1, m2⟩, h8⟩ := h
  have d4 := o2
  rw [hA] at d4
  have hk : (Value.slice x.ou.A x.ou.l.length x.ou.c).ownBlock = some g := by rw [hA]; rfl
  refine ⟨h1.apart o2 (by decide) hk, ⟨dk, d1, d2, own_other d3 o2 (by decide) hk⟩, h3, fun d hd => (h4 d hd).apart o2 (by decide) hk, ⟨l.set k (y, d.2), by rw [List.length_set]; exact o1, ?_⟩, h6, ⟨ml, m1, own_other m2 o2 (by decide) hk⟩, h8⟩
  have := (d4.stored (k * 4) (.int .u64 y)).1
  rw [show k * 4 = k * 4 + 0 from rfl, flat_set (cs := celC) (q := 4) (fun _ => rfl) l k 0 d (y, d.2) _ hd (by omega) rfl] at this
  rw [hA]
  exact this
theorem Wk.mas {w : World} {lo hi k g : Nat} {x : RegM} {l : List MrkM} {d : MrkM} {y : Int} (h : Wk w lo hi x) (hA : x.ma.A = some ⟨g, 0, none⟩) (o1 : l.length = x.ma.l.length)
    (o2 : w.ownsRow lo 51 3 (.slice x.ma.A x.ma.l.length x.ma.c) x.ma.l.length (l.flatMap mrkC)) (hd : l[k]? = some d) : Wk (w.setCell ⟨g, k * 3 + 2, none⟩ (.int .u64 y)) lo hi x := by
  obtain ⟨h1, ⟨dk, d1, d2, d3⟩, h3, h4, ⟨ol, p1, p2⟩, h6, -, h8⟩ := h
  have d4 := o2
  rw [hA] at d4
  have hk : (Value.slice x.ma.A x.ma.l.length x.ma.c).ownBlock = some g := by rw [hA]; rfl
  refine ⟨h1.apart o2 (by decide) hk, ⟨dk, d1, d2, own_other d3 o2 (by decide) hk⟩, h3, fun d hd => (h4 d hd).apart o2 (by decide) hk, ⟨ol, p1, own_other p2 o2 (by decide) hk⟩, h6, ⟨l.set k (d.1, d.2.1, y), by rw [List.length_set]; exact o1, ?_⟩, h8⟩
  have := (d4.stored (k * 3 + 2) (.int .u64 y)).1
  rw [flat_set (cs := mrkC) (q := 3) (fun _ => rfl) l k 2 d (d.1, d.2.1, y) _ hd (by omega) rfl] at this
  rw [hA]
  exact this
end Go.Proofs.Ytkfejiolfkepkaa
