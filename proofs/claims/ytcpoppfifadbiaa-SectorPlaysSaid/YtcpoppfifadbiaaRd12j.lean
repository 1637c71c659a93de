/-
  A step of the disk's and of the document's: what stands in memory between its calls.
-/
import Derived.Test.YtcpoppfifadbiaaRd12g
import Derived.Test.YtcpoppfifadbiaaRd12i
import Derived.Test.YtcpoppfifadbiaaSolo12
namespace Go.Proofs.Ytcpoppfifadbiaa
open Go.RowKit

structure DoS (w : World) (L L1 : Lay) (x : RdM) (s : StM) (D1 : Dk) (W : World) : Prop where
  m : BoxAt W w.heap.size x.cs 34
  o : BoxAt W (w.heap.size + 1) s.cs.toArray 40
  z : BoxAt W (w.heap.size + 1 + 1) #[.int .i64 0, .int .i64 0, .slice none 0 0, .slice none 0 0, .bool false, .int .u64 0, .int .i64 0] 34
  d : DiskAt W L1 D1
  eb : L1.b = L.b
  c : Chg L.has w W
  hs : ∀ g, L1.has g → L.has g ∨ w.heap.size ≤ g
  ap : ∀ g, L1.has g → g ≠ w.heap.size ∧ g ≠ w.heap.size + 1 ∧ g ≠ w.heap.size + 1 + 1
  ok : RdM.ok W x
  sz : w.heap.size + 1 + 1 < W.heap.size
section
variable {w W W' : World} {L L1 : Lay} {x y : RdM} {s : StM} {D D1 D2 : Dk}
theorem DoS.below (h : DoS w L L1 x s D1 W) (hb : Below W.heap.size W W') : DoS w L L1 x s D1 W' :=
  ⟨h.m.below hb, h.o.below hb, h.z.below hb, h.d.below hb, h.eb, h.c.trans (Chg.of_below (S := L.has) hb) (fun _ e _ => e), h.hs, h.ap, h.ok.below hb, Nat.lt_of_lt_of_le h.sz hb.size⟩
theorem box_chg {S : Nat → Prop} {g : Nat} {cs : Array Value} {t : TypeId} (h : BoxAt W g cs t) (hc : Chg S W W') (hn : ¬ S g) : BoxAt W' g cs t := (hc.block g h.lt hn).trans h
theorem DoS.turn (h : DoS w L L1 x s D1 W) (hd : Does L1 W W' D2) : ∃ L2, DoS w L L2 x s D2 W' := by
  obtain ⟨L2, eb, hd2, hc, hs⟩ := hd
  have hz := h.sz
  refine ⟨L2, box_chg h.m hc (fun e => (h.ap _ e).1 rfl), box_chg h.o hc (fun e => (h.ap _ e).2.1 rfl), box_chg h.z hc (fun e => (h.ap _ e).2.2 rfl), hd2, eb.trans h.eb, h.c.trans hc (fun g e hg => ?_), fun g e => ?_, fun g e => ?_, h.ok.chg h.d hc, Nat.lt_of_lt_of_le h.sz hc.size⟩
  · rcases h.hs g e with e | e
    · exact e
    · omega
  · rcases hs g e with e | e
    · exact h.hs g e
    · exact .inr (by have := h.c.size; omega)
  · rcases hs g e with e | e
    · exact h.ap g e
    · exact ⟨by omega, by omega, by omega⟩
theorem DoS.start (h : DiskAt w L D) (hx : RdM.ok w x) (hW : ((w.alloc (.cells x.cs 34)).alloc (.cells s.cs.toArray 40)).alloc (.cells #[.int .i64 0, .int .i64 0, .slice none 0 0, .slice none 0 0, .bool false, .int .u64 0, .int .i64 0] 34) = W) : DoS w L L x s D W := by
  have hb : Below w.heap.size w W := hW ▸ (((Below.refl _ _).alloc (Nat.le_refl _) _).alloc (by simp) _).alloc (by simp; omega) _
  refine ⟨hW ▸ ((BoxAt.new w _ _).alloc _).alloc _, ?_, ?_, h.below hb, rfl, Chg.of_below hb, fun _ e => .inl e, fun g e => ?_, hx.below hb, by rw [← hW]; simp⟩
  · have := (BoxAt.new (w.alloc (.cells x.cs 34)) s.cs.toArray 40).alloc (.cells #[.int .i64 0, .int .i64 0, .slice none 0 0, .slice none 0 0, .bool false, .int .u64 0, .int .i64 0] 34)
    rw [hW] at this
    simpa using this
  · have := BoxAt.new ((w.alloc (.cells x.cs 34)).alloc (.cells s.cs.toArray 40)) #[.int .i64 0, .int .i64 0, .slice none 0 0, .slice none 0 0, .bool false, .int .u64 0, .int .i64 0] 34
    rw [hW] at this
    simpa using this
  · have := h.lt e
    exact ⟨by omega, by omega, by omega⟩
theorem DoS.start_below (hW : ((w.alloc (.cells x.cs 34)).alloc (.cells s.cs.toArray 40)).alloc (.cells #[.int .i64 0, .int .i64 0, .slice none 0 0, .slice none 0 0, .bool false, .int .u64 0, .int .i64 0] 34) = W) : Below w.heap.size w W := hW ▸ (((Below.refl _ _).alloc (Nat.le_refl _) _).alloc (by simp) _).alloc (by simp; omega) _
/-- a row of bytes of the caller's own that no disk has -/
def Own99 (w : World) (L1 : Lay) (A : Option Addr) (n : Nat) (W : World) : Prop := 0 < n → ∃ g cur, A = some ⟨g, 0, none⟩ ∧ BoxAt W g cur 5 ∧ n ≤ cur.size ∧ ¬ L1.has g ∧ w.heap.size ≤ g
theorem Own99.below {A : Option Addr} {n : Nat} (h : Own99 w L1 A n W) (hb : Below W.heap.size W W') : Own99 w L1 A n W' := fun h0 => by
  obtain ⟨g, cur, e, h1, h2, h3, h4⟩ := h h0
  exact ⟨g, cur, e, h1.below hb, h2, h3, h4⟩
theorem Own99.start {A : Option Addr} {n c base : Nat} {l : List UInt8} (_hl : l.length = n) (h : W.ownsRow base 5 1 (.slice A n c) n (bv l)) (h1 : w.heap.size ≤ base) (h2 : ∀ g, L1.has g → g < base) : Own99 w L1 A n W := fun h0 => by
  rcases h.2 with ⟨_, e⟩ | ⟨g, cap, cur, hv, hb, hg, hc, _, hsz, _⟩
  · omega
  · injection hv with hA
    exact ⟨g, cur, hA, hg, by rw [Nat.mul_one] at hsz; omega, fun e => by have := h2 g e; omega, by omega⟩
theorem Own99.turn {L2 : Lay} {A : Option Addr} {n : Nat} (h : Own99 w L1 A n W) (hc : Chg L1.has W W') (hs : ∀ g, L2.has g → L1.has g ∨ W.heap.size ≤ g) : Own99 w L2 A n W' := fun h0 => by
  obtain ⟨g, cur, e, h1, h2, h3, h4⟩ := h h0
  refine ⟨g, cur, e, box_chg h1 hc h3, h2, fun e => ?_, h4⟩
  rcases hs g e with e | e
  · exact h3 e
  · have := h1.lt
    omega
theorem DoS.turn2 (h : DoS w L L1 x s D1 W) (hd : Does L1 W W' D2) : ∃ L2, DoS w L L2 x s D2 W' ∧ Chg L1.has W W' ∧ ∀ g, L2.has g → L1.has g ∨ W.heap.size ≤ g := by
  obtain ⟨L2, eb, hd2, hc, hs⟩ := hd
  have hz := h.sz
  refine ⟨L2, ⟨box_chg h.m hc (fun e => (h.ap _ e).1 rfl), box_chg h.o hc (fun e => (h.ap _ e).2.1 rfl), box_chg h.z hc (fun e => (h.ap _ e).2.2 rfl), hd2, eb.trans h.eb, h.c.trans hc (fun g e hg => ?_), fun g e => ?_, fun g e => ?_, h.ok.chg h.d hc, Nat.lt_of_lt_of_le h.sz hc.size⟩, hc, hs⟩
  · rcases h.hs g e with e | e
    · exact e
    · omega
  · rcases hs g e with e | e
    · exact h.hs g e
    · exact .inr (by have := h.c.size; omega)
  · rcases hs g e with e | e
    · exact h.ap g e
    · exact ⟨by omega, by omega, by omega⟩
/-- what a step leaves -/
def DoesP (L : Lay) (D2 : Dk) (w : World) (e : Ending) (w' : World) : Prop := ∃ y : RdM, e = .returned (.tuple #[.bool true, y.v]) ∧ y.p = refOf D2 ∧ RdM.ok w' y ∧ Does L w w' D2
theorem DoS.fin (h : DoS w L L1 x s D1 W) (hy : RdM.ok W y) (hp : y.p = refOf D1) (hg : W.grownBy W' (some (w.heap.size + 1 + 1))) {W2 : World} (hb : Below W'.heap.size W' W2) : DoesP L D1 w (.returned (.tuple #[.bool true, y.v])) W2 := by
  have hne : ∀ k, k ≠ w.heap.size + 1 + 1 → some (w.heap.size + 1 + 1) ≠ some k := fun k hk e => hk (by injection e with e; exact e.symm)
  have hc : Chg L.has w W' := ⟨hg.os.trans h.c.os, hg.tape.trans h.c.tape, hg.output.trans h.c.output, Nat.le_trans h.c.size hg.size, fun k hk hn => (hg.block k (Nat.lt_of_lt_of_le hk h.c.size) (fun e => hne k (by omega) e.symm)).trans (h.c.block k hk hn)⟩
  have hd : DiskAt W' L1 D1 := h.d.stay fun g hgh => hg.block g (h.d.lt hgh) (fun e => hne g (h.ap g hgh).2.2 e.symm)
  exact ⟨y, rfl, hp, (hy.grown h.z hg).below hb, L1, h.eb, hd.below hb, hc.trans (Chg.of_below (S := L.has) hb) (fun _ e _ => e), h.hs⟩
/-- the document's disk in its box is written -/
theorem DoS.setm (h : DoS w L L1 x s D1 W) (hy : RdM.ok W y) (hg : W.grownBy W' (some w.heap.size)) (hm : BoxAt W' w.heap.size y.cs 34) : DoS w L L1 y s D1 W' := by
  have hne : ∀ k, k ≠ w.heap.size → some w.heap.size ≠ some k := fun k hk e => hk (by injection e with e; exact e.symm)
  have hc : Chg L.has w W' := ⟨hg.os.trans h.c.os, hg.tape.trans h.c.tape, hg.output.trans h.c.output, Nat.le_trans h.c.size hg.size, fun k hk hn => (hg.block k (Nat.lt_of_lt_of_le hk h.c.size) (fun e => hne k (by omega) e.symm)).trans (h.c.block k hk hn)⟩
  exact ⟨hm, h.o.more12 hg (by omega), h.z.more12 hg (by omega), h.d.stay fun g hgh => hg.block g (h.d.lt hgh) (fun e => hne g (h.ap g hgh).1 e.symm), h.eb, hc, h.hs, h.ap, hy.grown h.m hg, Nat.lt_of_lt_of_le h.sz hg.size⟩
theorem ok_grow {g : Nat} {cur : Array Value} (hy : RdM.ok W y) (hb : BoxAt W g cur 5) (hg : W.grownBy W' (some g)) : RdM.ok W' y :=
  ⟨own_other9 hy.k (hb.apart9 (by decide) hy.k) hg, own_other9 hy.ws (hb.apart9 (by decide) hy.ws) hg, hy.f, hy.sz, hy.kl, hy.wl⟩
/-- a row of bytes that is nobody's is written -/
theorem DoS.grow {g : Nat} {cur : Array Value} (h : DoS w L L1 x s D1 W) (hb : BoxAt W g cur 5) (hn : ¬ L1.has g) (hw : w.heap.size ≤ g) (hg : W.grownBy W' (some g)) : DoS w L L1 x s D1 W' := by
  have e1 : g ≠ w.heap.size := fun e => two_kinds hb h.m (by decide) e
  have e2 : g ≠ w.heap.size + 1 := fun e => two_kinds hb h.o (by decide) e
  have e3 : g ≠ w.heap.size + 1 + 1 := fun e => two_kinds hb h.z (by decide) e
  have hne : ∀ k, k ≠ g → some g ≠ some k := fun k hk e => hk (by injection e with e; exact e.symm)
  have hc : Chg L.has w W' := ⟨hg.os.trans h.c.os, hg.tape.trans h.c.tape, hg.output.trans h.c.output, Nat.le_trans h.c.size hg.size, fun k hk hn => (hg.block k (Nat.lt_of_lt_of_le hk h.c.size) (fun e => hne k (by omega) e.symm)).trans (h.c.block k hk hn)⟩
  exact ⟨h.m.more12 hg e1, h.o.more12 hg e2, h.z.more12 hg e3, h.d.stay fun k hk => hg.block k (h.d.lt hk) (fun e => hne k (fun e4 => hn (e4 ▸ hk)) e.symm), h.eb, hc, h.hs, h.ap, ok_grow h.ok hb hg, Nat.lt_of_lt_of_le h.sz hg.size⟩
end
end Go.Proofs.Ytcpoppfifadbiaa
