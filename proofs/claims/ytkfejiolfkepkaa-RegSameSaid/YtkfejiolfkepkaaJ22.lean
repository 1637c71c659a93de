/-
  Texts of this claim put together: Foot.
-/
import Derived.Test.YtkfejiolfkepkaaJ21
import Derived.Test.YtkfejiolfkepkaaJ07
/-
  Where values lie (the blocks that they lead to), and parts that a call collects in a row of its own while it reads of a reader.
-/
namespace Go.Proofs.Ytkfejiolfkepkaa
open Go.RowKit

def noFt {α : Type} (_ : α) (_ : Nat) : Prop := False
def Sl.ft {α : Type} (f : α → Nat → Prop) (s : Sl α) (k : Nat) : Prop := (∃ ad, s.A = some ad ∧ ad.block = k) ∨ ∃ x ∈ s.l, f x k
/-- what reads cells of its own blocks alone -/
def Local {α : Type} (p : World → Nat → α → Prop) (f : α → Nat → Prop) : Prop := ∀ w w' B B' x, p w B x → (∀ q : Addr, f x q.block → q.block < B → w'.cell? q = w.cell? q) → B ≤ B' → p w' B' x
theorem Sl.localOf {α : Type} {cs : α → List Value} {p : World → Nat → α → Prop} {f : α → Nat → Prop} (h : Local p f) : Local (Sl.ok cs p) (Sl.ft f) := fun w w' B B' s hs hk hB =>
  ⟨hs.1, hs.2.1, fun hn => by
    obtain ⟨ad, e, hb, hc⟩ := hs.2.2.1 hn
    exact ⟨ad, e, by omega, fun j u hu => (hk _ (by rw [add_block]; exact .inl ⟨ad, e, rfl⟩) (by rw [add_block]; exact hb)).trans (hc j u hu)⟩,
   fun x hx => h w w' B B' x (hs.2.2.2 x hx) (fun q hq hqb => hk q (.inr ⟨x, hx, hq⟩) hqb) hB⟩
theorem local_plain {α : Type} (p : α → Prop) : Local (fun _ _ (x : α) => p x) noFt := fun _ _ _ _ _ h _ _ => h

theorem toks_local : Local toksOk (Sl.ft noFt) := Sl.localOf (local_plain _)
def SetM.ft (s : SetM) : Nat → Prop := Sl.ft noFt s.val
theorem set_local : Local SetM.ok SetM.ft := fun w w' B B' x h hk hB => ⟨h.1, toks_local w w' B B' x.val h.2 hk hB⟩
def EmM.ft (s : EmM) : Nat → Prop := Sl.ft noFt s.arg
theorem em_local : Local EmM.ok EmM.ft := fun w w' B B' x h hk hB => ⟨h.1, h.2.1, toks_local w w' B B' x.arg h.2.2 hk hB⟩
def RuM.ft (r : RuM) (k : Nat) : Prop := Sl.ft noFt r.gu k ∨ Sl.ft SetM.ft r.se k ∨ Sl.ft EmM.ft r.em k
theorem sets_local : Local setsOk (Sl.ft SetM.ft) := Sl.localOf set_local
theorem ems_local : Local emsOk (Sl.ft EmM.ft) := Sl.localOf em_local
theorem ru_local : Local RuM.ok RuM.ft := fun w w' B B' x h hk hB =>
  ⟨h.1, toks_local w w' B B' x.gu h.2.1 (fun q hq => hk q (.inl hq)) hB, sets_local w w' B B' x.se h.2.2.1 (fun q hq => hk q (.inr (.inl hq))) hB, ems_local w w' B B' x.em h.2.2.2 (fun q hq => hk q (.inr (.inr hq))) hB⟩
theorem rus_local : Local rusOk (Sl.ft RuM.ft) := Sl.localOf ru_local
/-- it lies from lo on, below hi -/
def Lies {α : Type} (f : α → Nat → Prop) (x : α) (lo hi : Nat) : Prop := ∀ k, f x k → lo ≤ k ∧ k < hi
theorem Lies.more {α : Type} {f : α → Nat → Prop} {x : α} {lo hi lo' hi' : Nat} (h : Lies f x lo hi) (h1 : lo' ≤ lo) (h2 : hi ≤ hi') : Lies f x lo' hi' := fun k hk => ⟨Nat.le_trans h1 (h k hk).1, Nat.lt_of_lt_of_le (h k hk).2 h2⟩
/-- where one block has changed that it doesn't lead to -/
theorem Local.grown {α : Type} {p : World → Nat → α → Prop} {f : α → Nat → Prop} (hp : Local p f) {w w' : World} {row : Option Nat} {x : α} (h : p w w.heap.size x) (hg : w.grownBy w' row) (hf : ∀ k, f x k → row ≠ some k) : p w' w'.heap.size x :=
  hp w w' _ _ x h (fun q hq hb => World.cell?_of_block (hg.block q.block hb fun e => hf _ hq e.symm)) hg.size
theorem Local.below {α : Type} {p : World → Nat → α → Prop} {f : α → Nat → Prop} (hp : Local p f) {w w' : World} {x : α} (h : p w w.heap.size x) (hg : Below w.heap.size w w') : p w' w'.heap.size x :=
  hp w w' _ _ x h (fun _ _ hb => hg.cell hb) hg.size

/-- parts in a row of one's own from lo on -/
structure Coll {α : Type} (T : TypeId) (q : Nat) (cs : α → List Value) (p : World → Nat → α → Prop) (f : α → Nat → Prop) (lo : Nat) (v : Value) (xs : List α) (w : World) : Prop where
  own : w.ownsRow lo T q v xs.length (xs.flatMap cs)
  ok : ∀ x ∈ xs, p w w.heap.size x
  far : ∀ x ∈ xs, ∀ k, f x k → (lo ≤ k ∧ k < w.heap.size) ∧ v.ownBlock ≠ some k

section
variable {α : Type} {T : TypeId} {q : Nat} {cs : α → List Value} {p : World → Nat → α → Prop} {f : α → Nat → Prop} {lo : Nat} {v v' : Value} {xs : List α} {w w' : World}
theorem Coll.nil (w : World) : Coll T q cs p f lo (.slice none 0 0) [] w := ⟨World.ownsRow_nil _ _ _ _, by simp, by simp⟩
theorem Coll.grown (h : Coll T q cs p f lo v xs w) (hp : Local p f) {g : Nat} (hg : w.grownBy w' (some g)) (hlt : g < lo) : Coll T q cs p f lo v xs w' :=
  ⟨h.own.kept hg (by
      rcases hv : v.ownBlock with _ | k
      · exact .inl rfl
      · have := (h.own.lt k hv).1
        exact .inr (by simp; omega)),
   fun x hx => hp.grown (h.ok x hx) hg fun k hk e => by
      have := (h.far x hx k hk).1.1
      injection e with e
      omega,
   fun x hx k hk => by
      have := h.far x hx k hk
      have := hg.size
      exact ⟨by omega, (h.far x hx k hk).2⟩⟩
theorem Coll.below (h : Coll T q cs p f lo v xs w) (hp : Local p f) (hb : Below w.heap.size w w') : Coll T q cs p f lo v xs w' :=
  ⟨own_below h.own hb, fun x hx => hp.below (h.ok x hx) hb, fun x hx k hk => by
      have := h.far x hx k hk
      have := hb.size
      exact ⟨by omega, (h.far x hx k hk).2⟩⟩
theorem Coll.snoc (h : Coll T q cs p f lo v xs w) (hp : Local p f) {x : α} (hx : p w w.heap.size x) (hf : ∀ k, f x k → (lo ≤ k ∧ k < w.heap.size) ∧ v.ownBlock ≠ some k) (hown : w'.ownsRow lo T q v' (xs.length + 1) (xs.flatMap cs ++ cs x))
    (hg : w.grownBy w' v.ownBlock) (hblk : ∀ k, v'.ownBlock = some k → v.ownBlock = some k ∨ w.heap.size ≤ k) : Coll T q cs p f lo v' (xs ++ [x]) w' := by
  refine ⟨by simpa using hown, fun y hy => ?_, fun y hy k hk => ?_⟩
  · rcases List.mem_append.1 hy with hy | hy
    · exact hp.grown (h.ok y hy) hg fun k hk => (h.far y hy k hk).2
    · rw [List.mem_singleton] at hy
      subst hy
      exact hp.grown hx hg fun k hk => (hf k hk).2
  · have hk2 : (lo ≤ k ∧ k < w.heap.size) ∧ v.ownBlock ≠ some k := by
      rcases List.mem_append.1 hy with hy | hy
      · exact h.far y hy k hk
      · rw [List.mem_singleton] at hy
        subst hy
        exact hf k hk
    have := hg.size
    refine ⟨by omega, fun e => ?_⟩
    rcases hblk k e with e1 | e1
    · exact hk2.2 e1
    · omega
/-- what has been collected as a slice -/
theorem Coll.slice {A : Option Addr} {n c : Nat} (h : Coll T q cs p f lo (.slice A n c) xs w) (hn : xs.length = n) : Sl.ok cs p w w.heap.size ⟨A, c, xs⟩ ∧ Lies (Sl.ft f) ⟨A, c, xs⟩ lo w.heap.size := by
  have ho := h.own
  subst hn
  refine ⟨⟨(own_bounds ho).1, (own_bounds ho).2, Sees.ownRow ho, h.ok⟩, fun k hk => ?_⟩
  rcases hk with ⟨ad, e, rfl⟩ | ⟨x, hx, hk⟩
  · simp only at e
    subst e
    exact ho.lt ad.block rfl
  · exact (h.far x hx k hk).1
theorem Coll.val (h : Coll T q cs p f lo v xs w) : ∃ A c, v = .slice A xs.length c := by
  rcases h.own.2 with ⟨rfl, h0⟩ | ⟨g, cap, cur, rfl, _⟩
  · exact ⟨none, 0, by rw [h0]⟩
  · exact ⟨_, _, rfl⟩
end

/-- a reader where another block has changed -/
theorem Rdr.other {w w' : World} {g : Nat} {l : List UInt8} {er : Int} {row : Option Nat} (h : Rdr w g l er) (hg : w.grownBy w' row) (hr : ∀ k, row = some k → g < k) : Rdr w' g l er := by
  obtain ⟨A, c, h1, h2, h3⟩ := h
  have hlt : g < w.heap.size := (Array.getElem?_eq_some_iff.1 h1).1
  refine ⟨A, c, (hg.block g hlt fun e => ?_).trans h1, h2.keep fun q hq => World.cell?_of_block (hg.block q.block (by omega) fun e => ?_), h3⟩
  · have := hr g e.symm
    omega
  · have := hr _ e.symm
    omega
theorem Rdr.glt {w : World} {g : Nat} {l : List UInt8} {er : Int} (h : Rdr w g l er) : g < w.heap.size := by
  obtain ⟨A, c, h1, _⟩ := h
  exact (Array.getElem?_eq_some_iff.1 h1).1
theorem grown_also {w w' w2 : World} {g : Nat} {row : Option Nat} (h : w.grownBy w' (some g)) (h2 : w'.grownBy w2 row) (hr : ∀ k, row = some k → w.heap.size ≤ k) : w.grownBy w2 (some g) :=
  ⟨h2.os.trans h.os, h2.tape.trans h.tape, h2.output.trans h.output, Nat.le_trans h.size h2.size, fun k hk hne => (h2.block k (Nat.lt_of_lt_of_le hk h.size) fun e => by have := hr k e.symm; omega).trans (h.block k hk hne)⟩

theorem Rdr.made {w : World} {g : Nat} {l : List UInt8} {er : Int} (h : Rdr w g l er) (o : Obj) : Rdr (w.alloc o) g l er := h.below ((Below.refl _ _).alloc (Nat.le_refl _) o)
theorem Rdr.drawn {w : World} {g : Nat} {l : List UInt8} {er : Int} (h : Rdr w g l er) : Rdr w.drew g l er := h.below (Below.refl _ _).drew
theorem box_far {w w' : World} {g b : Nat} {cs : Array Value} {t : TypeId} (hg : w.grownBy w' (some g)) (hb : w.heap[b]? = some (.cells cs t (0, 0))) (hne : g ≠ b) : w'.heap[b]? = some (.cells cs t (0, 0)) :=
  (hg.block b (Array.getElem?_eq_some_iff.1 hb).1 (fun e => by injection e with e; exact hne e.symm)).trans hb
theorem Rdr.stored {w : World} {g b i : Nat} {v : Value} {l : List UInt8} {er : Int} (h : Rdr w g l er) (hlt : g < b) : Rdr (w.setCell ⟨b, i, none⟩ v) g l er := by
  obtain ⟨A, c, hg, hs, hc⟩ := h
  exact ⟨A, c, (Below.heap_setCell w ⟨b, i, none⟩ v g (Nat.ne_of_lt hlt)).trans hg, hs.keep fun p hp => World.cell?_of_block (Below.heap_setCell w ⟨b, i, none⟩ v p.block (by simp; omega)), hc⟩
theorem grown_stored {w w' : World} {g b i : Nat} {v : Value} (h : w.grownBy w' (some g)) (hb : w.heap.size ≤ b) : w.grownBy (w'.setCell ⟨b, i, none⟩ v) (some g) :=
  ⟨h.os, h.tape, h.output, by simpa [World.setCell] using h.size, fun k hk hne => (Below.heap_setCell w' ⟨b, i, none⟩ v k (by simp; omega)).trans (h.block k hk hne)⟩
theorem grown_made {w w' : World} {g : Nat} {o : Obj} (h : (w.alloc o).grownBy w' (some g)) : w.grownBy w' (some g) := (World.grownBy_alloc w o (some g)).trans h
theorem grown_ndrew {w w' : World} {g : Nat} (h : w.drew.grownBy w' (some g)) : w.grownBy w' (some g) := ⟨h.os, h.tape, h.output, h.size, h.block⟩

/-- what lies elsewhere stays so where a cell is stored -/
theorem keep_stored {α : Type} {p : World → Nat → α → Prop} {f : α → Nat → Prop} (hp : Local p f) {w : World} {x : α} {z i lo hi : Nat} {v : Value} (h : p w w.heap.size x) (hl : Lies f x lo hi) (hz : z < lo) : p (w.setCell ⟨z, i, none⟩ v) (w.setCell ⟨z, i, none⟩ v).heap.size x :=
  hp w _ _ _ x h (fun q hq _ => World.cell?_of_block (Below.heap_setCell w ⟨z, i, none⟩ v q.block (by have := (hl _ hq).1; show q.block ≠ z; omega))) (by simp [World.setCell])

/-- what a call leaves that takes a part of a reader: the part's value, what it holds, where it lies -/
def PartR {α β : Type} (vv : α → Value) (pp : α → β) (p : World → Nat → α → Prop) (f : α → Nat → Prop) (w : World) (g : Nat) (r : β × RS) (e : Ending) (w' : World) : Prop :=
  ∃ x, e = .returned (vv x) ∧ pp x = r.1 ∧ p w' w'.heap.size x ∧ Lies f x w.heap.size w'.heap.size ∧ Rdr w' g r.2.1 r.2.2 ∧ w.grownBy w' (some g)
end Go.Proofs.Ytkfejiolfkepkaa
