/-
  Texts of this claim put together: Foot, Reg, MayG, Wit6.
-/
import Derived.Test.YtecbpmnolgkllaaGreatJ29
import Derived.Test.YtecbpmnolgkllaaGreatJ20
import Derived.Test.YtecbpmnolgkllaaGreatJ12
import Derived.Test.YtecbpmnolgkllaaGreatJ13
/-
  Where values lie (the blocks that they lead to), and parts that a call collects in a row of its own while it reads of a reader.
-/
namespace Go.Proofs.YtecbpmnolgkllaaGreat
open Go.RowKit

def noFt {α : Type} (_ : α) (_ : Nat) : Prop := False
def Sl.ft {α : Type} (f : α → Nat → Prop) (s : Sl α) (k : Nat) : Prop := (∃ ad, s.A = some ad ∧ ad.block = k) ∨ ∃ x ∈ s.l, f x k
/-- what reads cells of its own blocks alone -/
def Local {α : Type} (p : World → Nat → α → Prop) (f : α → Nat → Prop) : Prop := ∀ w w' B B' x, p w B x → (∀ q : Addr, f x q.block → q.block < B → w'.cell? q = w.cell? q) → B ≤ B' → p w' B' x
theorem Sl.localOf {α : Type} {cs : α → List Value} {p : World → Nat → α → Prop} {f : α → Nat → Prop} (h : Local p f) : Local (Sl.ok cs p) (Sl.ft f) := fun w w' B B' s hs hk hB =>
  ⟨hs.1, hs.2.1, fun hn => by
    obtain ⟨ad, e, hb, hc⟩ := hs.2.2.1 hn
    exact ⟨ad, e, by omega, fun j u hu => (hk _ (by rw [add_block]; exact .inl ⟨ad, e, rfl⟩) (by rw [add_block]; exact hb)).trans (hc j u hu)⟩,
   fun x hx => h w w' B B' x (hs.2.2.2 x hx) (fun q hq hqb => hk q (.inr ⟨x, hx, hq⟩) hqb) hB⟩
theorem local_plain {α : Type} (p : α → Prop) : Local (fun _ _ (x : α) => p x) noFt := fun _ _ _ _ _ h _ _ => h

theorem toks_local : Local toksOk (Sl.ft noFt) := Sl.localOf (local_plain _)
def SetM.ft (s : SetM) : Nat → Prop := Sl.ft noFt s.val
theorem set_local : Local SetM.ok SetM.ft := fun w w' B B' x h hk hB => ⟨h.1, toks_local w w' B B' x.val h.2 hk hB⟩
def EmM.ft (s : EmM) : Nat → Prop := Sl.ft noFt s.arg
theorem em_local : Local EmM.ok EmM.ft := fun w w' B B' x h hk hB => ⟨h.1, h.2.1, toks_local w w' B B' x.arg h.2.2 hk hB⟩
def RuM.ft (r : RuM) (k : Nat) : Prop := Sl.ft noFt r.gu k ∨ Sl.ft SetM.ft r.se k ∨ Sl.ft EmM.ft r.em k
theorem sets_local : Local setsOk (Sl.ft SetM.ft) := Sl.localOf set_local
theorem ems_local : Local emsOk (Sl.ft EmM.ft) := Sl.localOf em_local
theorem ru_local : Local RuM.ok RuM.ft := fun w w' B B' x h hk hB =>
  ⟨h.1, toks_local w w' B B' x.gu h.2.1 (fun q hq => hk q (.inl hq)) hB, sets_local w w' B B' x.se h.2.2.1 (fun q hq => hk q (.inr (.inl hq))) hB, ems_local w w' B B' x.em h.2.2.2 (fun q hq => hk q (.inr (.inr hq))) hB⟩
theorem rus_local : Local rusOk (Sl.ft RuM.ft) := Sl.localOf ru_local
/-- it lies from lo on, below hi -/
def Lies {α : Type} (f : α → Nat → Prop) (x : α) (lo hi : Nat) : Prop := ∀ k, f x k → lo ≤ k ∧ k < hi
theorem Lies.more {α : Type} {f : α → Nat → Prop} {x : α} {lo hi lo' hi' : Nat} (h : Lies f x lo hi) (h1 : lo' ≤ lo) (h2 : hi ≤ hi') : Lies f x lo' hi' := fun k hk => ⟨Nat.le_trans h1 (h k hk).1, Nat.lt_of_lt_of_le (h k hk).2 h2⟩
/-- where one block has changed that it doesn't lead to -/
theorem Local.grown {α : Type} {p : World → Nat → α → Prop} {f : α → Nat → Prop} (hp : Local p f) {w w' : World} {row : Option Nat} {x : α} (h : p w w.heap.size x) (hg : w.grownBy w' row) (hf : ∀ k, f x k → row ≠ some k) : p w' w'.heap.size x :=
  hp w w' _ _ x h (fun q hq hb => World.cell?_of_block (hg.block q.block hb fun e => hf _ hq e.symm)) hg.size
theorem Local.below {α : Type} {p : World → Nat → α → Prop} {f : α → Nat → Prop} (hp : Local p f) {w w' : World} {x : α} (h : p w w.heap.size x) (hg : Below w.heap.size w w') : p w' w'.heap.size x :=
  hp w w' _ _ x h (fun _ _ hb => hg.cell hb) hg.size

/-- parts in a row of one's own from lo on -/
structure Coll {α : Type} (T : TypeId) (q : Nat) (cs : α → List Value) (p : World → Nat → α → Prop) (f : α → Nat → Prop) (lo : Nat) (v : Value) (xs : List α) (w : World) : Prop where
  own : w.ownsRow lo T q v xs.length (xs.flatMap cs)
  ok : ∀ x ∈ xs, p w w.heap.size x
  far : ∀ x ∈ xs, ∀ k, f x k → (lo ≤ k ∧ k < w.heap.size) ∧ v.ownBlock ≠ some k

section
variable {α : Type} {T : TypeId} {q : Nat} {cs : α → List Value} {p : World → Nat → α → Prop} {f : α → Nat → Prop} {lo : Nat} {v v' : Value} {xs : List α} {w w' : World}
theorem Coll.nil (w : World) : Coll T q cs p f lo (.slice none 0 0) [] w := ⟨World.ownsRow_nil _ _ _ _, by simp, by simp⟩
theorem Coll.grown (h : Coll T q cs p f lo v xs w) (hp : Local p f) {g : Nat} (hg : w.grownBy w' (some g)) (hlt : g < lo) : Coll T q cs p f lo v xs w' :=
  ⟨h.own.kept hg (by
      rcases hv : v.ownBlock with _ | k
      · exact .inl rfl
      · have := (h.own.lt k hv).1
        exact .inr (by simp; omega)),
   fun x hx => hp.grown (h.ok x hx) hg fun k hk e => by
      have := (h.far x hx k hk).1.1
      injection e with e
      omega,
   fun x hx k hk => by
      have := h.far x hx k hk
      have := hg.size
      exact ⟨by omega, (h.far x hx k hk).2⟩⟩
theorem Coll.below (h : Coll T q cs p f lo v xs w) (hp : Local p f) (hb : Below w.heap.size w w') : Coll T q cs p f lo v xs w' :=
  ⟨own_below h.own hb, fun x hx => hp.below (h.ok x hx) hb, fun x hx k hk => by
      have := h.far x hx k hk
      have := hb.size
      exact ⟨by omega, (h.far x hx k hk).2⟩⟩
theorem Coll.snoc (h : Coll T q cs p f lo v xs w) (hp : Local p f) {x : α} (hx : p w w.heap.size x) (hf : ∀ k, f x k → (lo ≤ k ∧ k < w.heap.size) ∧ v.ownBlock ≠ some k) (hown : w'.ownsRow lo T q v' (xs.length + 1) (xs.flatMap cs ++ cs x))
    (hg : w.grownBy w' v.ownBlock) (hblk : ∀ k, v'.ownBlock = some k → v.ownBlock = some k ∨ w.heap.size ≤ k) : Coll T q cs p f lo v' (xs ++ [x]) w' := by
  refine ⟨by simpa using hown, fun y hy => ?_, fun y hy k hk => ?_⟩
  · rcases List.mem_append.1 hy with hy | hy
    · exact hp.grown (h.ok y hy) hg fun k hk => (h.far y hy k hk).2
    · rw [List.mem_singleton] at hy
      subst hy
      exact hp.grown hx hg fun k hk => (hf k hk).2
  · have hk2 : (lo ≤ k ∧ k < w.heap.size) ∧ v.ownBlock ≠ some k := by
      rcases List.mem_append.1 hy with hy | hy
      · exact h.far y hy k hk
      · rw [List.mem_singleton] at hy
        subst hy
        exact hf k hk
    have := hg.size
    refine ⟨by omega, fun e => ?_⟩
    rcases hblk k e with e1 | e1
    · exact hk2.2 e1
    · omega
/-- what has been collected as a slice -/
theorem Coll.slice {A : Option Addr} {n c : Nat} (h : Coll T q cs p f lo (.slice A n c) xs w) (hn : xs.length = n) : Sl.ok cs p w w.heap.size ⟨A, c, xs⟩ ∧ Lies (Sl.ft f) ⟨A, c, xs⟩ lo w.heap.size := by
  have ho := h.own
  subst hn
  refine ⟨⟨(own_bounds ho).1, (own_bounds ho).2, Sees.ownRow ho, h.ok⟩, fun k hk => ?_⟩
  rcases hk with ⟨ad, e, rfl⟩ | ⟨x, hx, hk⟩
  · simp only at e
    subst e
    exact ho.lt ad.block rfl
  · exact (h.far x hx k hk).1
theorem Coll.val (h : Coll T q cs p f lo v xs w) : ∃ A c, v = .slice A xs.length c := by
  rcases h.own.2 with ⟨rfl, h0⟩ | ⟨g, cap, cur, rfl, _⟩
  · exact ⟨none, 0, by rw [h0]⟩
  · exact ⟨_, _, rfl⟩
end

/-- a reader where another block has changed -/
theorem Rdr.other {w w' : World} {g : Nat} {l : List UInt8} {er : Int} {row : Option Nat} (h : Rdr w g l er) (hg : w.grownBy w' row) (hr : ∀ k, row = some k → g < k) : Rdr w' g l er := by
  obtain ⟨A, c, h1, h2, h3⟩ := h
  have hlt : g < w.heap.size := (Array.getElem?_eq_some_iff.1 h1).1
  refine ⟨A, c, (hg.block g hlt fun e => ?_).trans h1, h2.keep fun q hq => World.cell?_of_block (hg.block q.block (by omega) fun e => ?_), h3⟩
  · have := hr g e.symm
    omega
  · have := hr _ e.symm
    omega
theorem Rdr.glt {w : World} {g : Nat} {l : List UInt8} {er : Int} (h : Rdr w g l er) : g < w.heap.size := by
  obtain ⟨A, c, h1, _⟩ := h
  exact (Array.getElem?_eq_some_iff.1 h1).1
theorem grown_also {w w' w2 : World} {g : Nat} {row : Option Nat} (h : w.grownBy w' (some g)) (h2 : w'.grownBy w2 row) (hr : ∀ k, row = some k → w.heap.size ≤ k) : w.grownBy w2 (some g) :=
  ⟨h2.os.trans h.os, h2.tape.trans h.tape, h2.output.trans h.output, Nat.le_trans h.size h2.size, fun k hk hne => (h2.block k (Nat.lt_of_lt_of_le hk h.size) fun e => by have := hr k e.symm; omega).trans (h.block k hk hne)⟩

theorem Rdr.made {w : World} {g : Nat} {l : List UInt8} {er : Int} (h : Rdr w g l er) (o : Obj) : Rdr (w.alloc o) g l er := h.below ((Below.refl _ _).alloc (Nat.le_refl _) o)
theorem Rdr.drawn {w : World} {g : Nat} {l : List UInt8} {er : Int} (h : Rdr w g l er) : Rdr w.drew g l er := h.below (Below.refl _ _).drew
theorem box_far {w w' : World} {g b : Nat} {cs : Array Value} {t : TypeId} (hg : w.grownBy w' (some g)) (hb : w.heap[b]? = some (.cells cs t (0, 0))) (hne : g ≠ b) : w'.heap[b]? = some (.cells cs t (0, 0)) :=
  (hg.block b (Array.getElem?_eq_some_iff.1 hb).1 (fun e => by injection e with e; exact hne e.symm)).trans hb
theorem Rdr.stored {w : World} {g b i : Nat} {v : Value} {l : List UInt8} {er : Int} (h : Rdr w g l er) (hlt : g < b) : Rdr (w.setCell ⟨b, i, none⟩ v) g l er := by
  obtain ⟨A, c, hg, hs, hc⟩ := h
  exact ⟨A, c, (Below.heap_setCell w ⟨b, i, none⟩ v g (Nat.ne_of_lt hlt)).trans hg, hs.keep fun p hp => World.cell?_of_block (Below.heap_setCell w ⟨b, i, none⟩ v p.block (by simp; omega)), hc⟩
theorem grown_stored {w w' : World} {g b i : Nat} {v : Value} (h : w.grownBy w' (some g)) (hb : w.heap.size ≤ b) : w.grownBy (w'.setCell ⟨b, i, none⟩ v) (some g) :=
  ⟨h.os, h.tape, h.output, by simpa [World.setCell] using h.size, fun k hk hne => (Below.heap_setCell w' ⟨b, i, none⟩ v k (by simp; omega)).trans (h.block k hk hne)⟩
theorem grown_made {w w' : World} {g : Nat} {o : Obj} (h : (w.alloc o).grownBy w' (some g)) : w.grownBy w' (some g) := (World.grownBy_alloc w o (some g)).trans h
theorem grown_ndrew {w w' : World} {g : Nat} (h : w.drew.grownBy w' (some g)) : w.grownBy w' (some g) := ⟨h.os, h.tape, h.output, h.size, h.block⟩

/-- what lies elsewhere stays so where a cell is stored -/
theorem keep_stored {α : Type} {p : World → Nat → α → Prop} {f : α → Nat → Prop} (hp : Local p f) {w : World} {x : α} {z i lo hi : Nat} {v : Value} (h : p w w.heap.size x) (hl : Lies f x lo hi) (hz : z < lo) : p (w.setCell ⟨z, i, none⟩ v) (w.setCell ⟨z, i, none⟩ v).heap.size x :=
  hp w _ _ _ x h (fun q hq _ => World.cell?_of_block (Below.heap_setCell w ⟨z, i, none⟩ v q.block (by have := (hl _ hq).1; show q.block ≠ z; omega))) (by simp [World.setCell])

/-- what a call leaves that takes a part of a reader: the part's value, what it holds, where it lies -/
def PartR {α β : Type} (vv : α → Value) (pp : α → β) (p : World → Nat → α → Prop) (f : α → Nat → Prop) (w : World) (g : Nat) (r : β × RS) (e : Ending) (w' : World) : Prop :=
  ∃ x, e = .returned (vv x) ∧ pp x = r.1 ∧ p w' w'.heap.size x ∧ Lies f x w.heap.size w'.heap.size ∧ Rdr w' g r.2.1 r.2.2 ∧ w.grownBy w' (some g)
end Go.Proofs.YtecbpmnolgkllaaGreat

/-
  Registers in memory, and which may be: entries, cells, marks; their bytes.
-/
namespace Go.Proofs.YtecbpmnolgkllaaGreat
open Go.ChangeShapes Go.WideShapes Go.ChangeAt Go.RowKit Go.Joins Go.Deep

def U64 (x : Int) : Prop := 0 ≤ x ∧ x ≤ 18446744073709551615
def U8 (x : Int) : Prop := 0 ≤ x ∧ x ≤ 255
def intC (x : Int) : List Value := [.int .i64 x]
theorem iv_flat (l : List Int) : l.flatMap intC = iv l := by
  induction l with
  | nil => rfl
  | cons x l ih => rw [List.flatMap_cons, ih]; rfl
abbrev IntS := Sl Int
def intsOk (w : World) (B : Nat) (s : IntS) : Prop := Sl.ok intC (fun _ _ x => I64 x) w B s
theorem ints_stable : Stable intsOk := Sl.stable fun _ _ _ _ _ h _ _ => h
theorem ints_local : Local intsOk (Sl.ft noFt) := Sl.localOf (local_plain _)
theorem intsOk.sees {w : World} {B : Nat} {s : IntS} (h : intsOk w B s) : Sees w B s.A (iv s.l) := by rw [← iv_flat]; exact h.2.2.1

/-- a client's entry -/
structure DoneM where
  cl : Int
  sq : Int
  er : Int
  inc : Int
  st : Int
  va : IntS
def DoneM.cs (d : DoneM) : List Value := [.int .u8 d.cl, .int .u64 d.sq, .int .i64 d.er, .int .u64 d.inc, .int .i64 d.st, d.va.v]
def DoneM.v (d : DoneM) : Value := .agg #[.int .u8 d.cl, .int .u64 d.sq, .int .i64 d.er, .int .u64 d.inc, .int .i64 d.st, d.va.v]
def DoneM.ok (w : World) (B : Nat) (d : DoneM) : Prop := (U8 d.cl ∧ U64 d.sq ∧ I64 d.er ∧ U64 d.inc ∧ I64 d.st) ∧ intsOk w B d.va
def DoneM.ft (d : DoneM) : Nat → Prop := Sl.ft noFt d.va
abbrev RepP := Int × Int × Int × List Int
abbrev DoneP := Int × Int × RepP
def DoneM.p (d : DoneM) : DoneP := (d.cl, d.sq, d.er, d.inc, d.st, d.va.l)
theorem done_stable : Stable DoneM.ok := fun w w' B B' x h hk hB => ⟨h.1, ints_stable w w' B B' x.va h.2 hk hB⟩
theorem done_local : Local DoneM.ok DoneM.ft := fun w w' B B' x h hk hB => ⟨h.1, ints_local w w' B B' x.va h.2 hk hB⟩
def dnsOk (w : World) (B : Nat) (s : Sl DoneM) : Prop := Sl.ok DoneM.cs DoneM.ok w B s
theorem dns_stable : Stable dnsOk := Sl.stable done_stable
theorem dns_local : Local dnsOk (Sl.ft DoneM.ft) := Sl.localOf done_local

/-- a cell: number, target, action, argument -/
abbrev CelM := Int × Int × Int × Int
def celC (c : CelM) : List Value := [.int .u64 c.1, .int .u8 c.2.1, .int .i64 c.2.2.1, .int .i64 c.2.2.2]
def celV (c : CelM) : Value := .agg #[.int .u64 c.1, .int .u8 c.2.1, .int .i64 c.2.2.1, .int .i64 c.2.2.2]
def celIn (c : CelM) : Prop := U64 c.1 ∧ U8 c.2.1 ∧ I64 c.2.2.1 ∧ I64 c.2.2.2
def celsOk (w : World) (B : Nat) (s : Sl CelM) : Prop := Sl.ok celC (fun _ _ c => celIn c) w B s
theorem cels_stable : Stable celsOk := Sl.stable fun _ _ _ _ _ h _ _ => h
theorem cels_local : Local celsOk (Sl.ft noFt) := Sl.localOf (local_plain _)
/-- a mark: source, incarnation, cell -/
abbrev MrkM := Int × Int × Int
def mrkC (c : MrkM) : List Value := [.int .u8 c.1, .int .u64 c.2.1, .int .u64 c.2.2]
def mrkV (c : MrkM) : Value := .agg #[.int .u8 c.1, .int .u64 c.2.1, .int .u64 c.2.2]
def mrkIn (c : MrkM) : Prop := U8 c.1 ∧ U64 c.2.1 ∧ U64 c.2.2
def mrksOk (w : World) (B : Nat) (s : Sl MrkM) : Prop := Sl.ok mrkC (fun _ _ c => mrkIn c) w B s
theorem mrks_stable : Stable mrksOk := Sl.stable fun _ _ _ _ _ h _ _ => h
theorem mrks_local : Local mrksOk (Sl.ft noFt) := Sl.localOf (local_plain _)

/-- a register -/
structure RegM where
  ki : Int
  inc : Int
  st : Int
  va : IntS
  dn : Sl DoneM
  ou : Sl CelM
  la : Int
  ma : Sl MrkM
def RegM.cs (r : RegM) : List Value := [.int .u8 r.ki, .int .u64 r.inc, .int .i64 r.st, r.va.v, r.dn.v, r.ou.v, .int .u64 r.la, r.ma.v]
def RegM.v (r : RegM) : Value := .agg #[.int .u8 r.ki, .int .u64 r.inc, .int .i64 r.st, r.va.v, r.dn.v, r.ou.v, .int .u64 r.la, r.ma.v]
def RegM.ok (w : World) (B : Nat) (r : RegM) : Prop := (U8 r.ki ∧ U64 r.inc ∧ I64 r.st ∧ U64 r.la) ∧ intsOk w B r.va ∧ dnsOk w B r.dn ∧ celsOk w B r.ou ∧ mrksOk w B r.ma
def RegM.ft (r : RegM) (k : Nat) : Prop := Sl.ft noFt r.va k ∨ Sl.ft DoneM.ft r.dn k ∨ Sl.ft noFt r.ou k ∨ Sl.ft noFt r.ma k
theorem reg_stable : Stable RegM.ok := fun w w' B B' x h hk hB => ⟨h.1, ints_stable w w' B B' x.va h.2.1 hk hB, dns_stable w w' B B' x.dn h.2.2.1 hk hB, cels_stable w w' B B' x.ou h.2.2.2.1 hk hB, mrks_stable w w' B B' x.ma h.2.2.2.2 hk hB⟩
theorem reg_local : Local RegM.ok RegM.ft := fun w w' B B' x h hk hB =>
  ⟨h.1, ints_local w w' B B' x.va h.2.1 (fun q hq => hk q (.inl hq)) hB, dns_local w w' B B' x.dn h.2.2.1 (fun q hq => hk q (.inr (.inl hq))) hB,
   cels_local w w' B B' x.ou h.2.2.2.1 (fun q hq => hk q (.inr (.inr (.inl hq)))) hB, mrks_local w w' B B' x.ma h.2.2.2.2 (fun q hq => hk q (.inr (.inr (.inr hq)))) hB⟩
/-- what it holds -/
structure RegP where
  ki : Int
  inc : Int
  st : Int
  va : List Int
  dn : List DoneP
  ou : List CelM
  la : Int
  ma : List MrkM
deriving DecidableEq
def RegM.p (r : RegM) : RegP := ⟨r.ki, r.inc, r.st, r.va.l, r.dn.l.map DoneM.p, r.ou.l, r.la, r.ma.l⟩
def zeroP : RegP := ⟨0, 0, 0, [], [], [], 0, []⟩
def zeroM : RegM := ⟨0, 0, 0, ⟨none, 0, []⟩, ⟨none, 0, []⟩, ⟨none, 0, []⟩, 0, ⟨none, 0, []⟩⟩
theorem zeroM_p : zeroM.p = zeroP := rfl
theorem zeroM_ok (w : World) (B : Nat) : RegM.ok w B zeroM :=
  ⟨by unfold zeroM U8 U64 I64; simp, ⟨by simp [zeroM], by simp [zeroM, maxLen], Sees.empty _ _ _, by simp [zeroM]⟩, ⟨by simp [zeroM], by simp [zeroM, maxLen], Sees.empty _ _ _, by simp [zeroM]⟩, ⟨by simp [zeroM], by simp [zeroM, maxLen], Sees.empty _ _ _, by simp [zeroM]⟩, ⟨by simp [zeroM], by simp [zeroM, maxLen], Sees.empty _ _ _, by simp [zeroM]⟩⟩

section
variable {w : World} {B : Nat} {A : Option Addr}
theorem Sees.i64 {l : List Int} {k : Nat} {x : Int} (h : Sees w B A (l.flatMap intC)) (hk : l[k]? = some x) :
    ∃ b o, A = some ⟨b, o, none⟩ ∧ b < B ∧ w.cell? ⟨b, o + k, none⟩ = some (.int .i64 x) := by
  obtain ⟨b, o, e, hb, hc⟩ := h.at (q := 1) (fun _ => rfl) (by omega) hk
  exact ⟨b, o, e, hb, by simpa using hc 0 _ rfl⟩
theorem Sees.done {l : List DoneM} {k : Nat} {x : DoneM} (h : Sees w B A (l.flatMap DoneM.cs)) (hk : l[k]? = some x) :
    ∃ b o, A = some ⟨b, o, none⟩ ∧ b < B ∧ w.cell? ⟨b, o + k * 6, none⟩ = some (.int .u8 x.cl) ∧ w.cell? ⟨b, o + k * 6 + 1, none⟩ = some (.int .u64 x.sq) ∧ w.cell? ⟨b, o + k * 6 + 2, none⟩ = some (.int .i64 x.er) ∧
      w.cell? ⟨b, o + k * 6 + 3, none⟩ = some (.int .u64 x.inc) ∧ w.cell? ⟨b, o + k * 6 + 4, none⟩ = some (.int .i64 x.st) ∧ w.cell? ⟨b, o + k * 6 + 5, none⟩ = some (.slice x.va.A x.va.l.length x.va.c) := by
  obtain ⟨b, o, e, hb, hc⟩ := h.at (q := 6) (fun _ => rfl) (by omega) hk
  exact ⟨b, o, e, hb, hc 0 _ rfl, hc 1 _ rfl, hc 2 _ rfl, hc 3 _ rfl, hc 4 _ rfl, hc 5 _ rfl⟩
theorem Sees.cel {l : List CelM} {k : Nat} {x : CelM} (h : Sees w B A (l.flatMap celC)) (hk : l[k]? = some x) :
    ∃ b o, A = some ⟨b, o, none⟩ ∧ b < B ∧ w.cell? ⟨b, o + k * 4, none⟩ = some (.int .u64 x.1) ∧ w.cell? ⟨b, o + k * 4 + 1, none⟩ = some (.int .u8 x.2.1) ∧ w.cell? ⟨b, o + k * 4 + 2, none⟩ = some (.int .i64 x.2.2.1) ∧ w.cell? ⟨b, o + k * 4 + 3, none⟩ = some (.int .i64 x.2.2.2) := by
  obtain ⟨b, o, e, hb, hc⟩ := h.at (q := 4) (fun _ => rfl) (by omega) hk
  exact ⟨b, o, e, hb, hc 0 _ rfl, hc 1 _ rfl, hc 2 _ rfl, hc 3 _ rfl⟩
theorem Sees.mrk {l : List MrkM} {k : Nat} {x : MrkM} (h : Sees w B A (l.flatMap mrkC)) (hk : l[k]? = some x) :
    ∃ b o, A = some ⟨b, o, none⟩ ∧ b < B ∧ w.cell? ⟨b, o + k * 3, none⟩ = some (.int .u8 x.1) ∧ w.cell? ⟨b, o + k * 3 + 1, none⟩ = some (.int .u64 x.2.1) ∧ w.cell? ⟨b, o + k * 3 + 2, none⟩ = some (.int .u64 x.2.2) := by
  obtain ⟨b, o, e, hb, hc⟩ := h.at (q := 3) (fun _ => rfl) (by omega) hk
  exact ⟨b, o, e, hb, hc 0 _ rfl, hc 1 _ rfl, hc 2 _ rfl⟩
end

section
variable {H : Type} {enc : TypeId × Value → H} {w : World} {base : Nat} {spare : Nat → Bool} {held : Bool}

theorem open_u64c {n : Nat} {t : TypeId} {v : Value} {y : DataW H × List MemPlace} (ht : Tryz.prog.underlying t = some (.int .u64)) (h : DataW.trod enc Tryz.prog w base spare held n t [v] = some y) : ∃ x : Int, v = .int .u64 x ∧ U64 x := by
  obtain ⟨a, rfl, wa⟩ := open_numI ht h
  exact ⟨a, rfl, by unfold U64; simpa [Lit.wf, IntKind.min, IntKind.max, IntKind.signed, IntKind.bits] using wa⟩

theorem el_i64 {n : Nat} {xs : List Value} {y : DataW H × List MemPlace} (hl : xs.length = 1) (h : DataW.trod enc Tryz.prog w base spare held n 2 xs = some y) : ∃ t, xs = intC t ∧ I64 t := by
  match xs, hl with
  | [c0], _ =>
    obtain ⟨a, rfl, ha⟩ := open_i64c Tryz.underlying2 h
    exact ⟨a, rfl, ha⟩
theorem open_intc {n : Nat} {v : Value} {y : DataW H × List MemPlace} (h : DataW.trod enc Tryz.prog w base spare held n 26 [v] = some y) : ∃ s : IntS, v = s.v ∧ intsOk w w.heap.size s := by
  obtain ⟨s, hv, h1, h2, h3, h4⟩ := open_sl intC I64 (q := 1) (by omega) Tryz.underlying26 (by kernel_rfl) (fun _ => rfl) (fun _ _ _ hl h => el_i64 hl h) h
  exact ⟨s, hv, h1, h2, h3, h4⟩

set_option maxRecDepth 100000 in
theorem el_cel {n : Nat} {xs : List Value} {y : DataW H × List MemPlace} (hl : xs.length = 4) (h : DataW.trod enc Tryz.prog w base spare held n 85 xs = some y) : ∃ t, xs = celC t ∧ celIn t := by
  match xs, hl with
  | [c0, c1, c2, c3], _ =>
    obtain ⟨_, _, h0⟩ := field_at Tryz.underlying85 h 0 rfl rfl rfl (by kernel_rfl) rfl
    obtain ⟨_, _, h1⟩ := field_at Tryz.underlying85 h 1 rfl rfl rfl (by kernel_rfl) rfl
    obtain ⟨_, _, h2⟩ := field_at Tryz.underlying85 h 2 rfl rfl rfl (by kernel_rfl) rfl
    obtain ⟨_, _, h3⟩ := field_at Tryz.underlying85 h 3 rfl rfl rfl (by kernel_rfl) rfl
    obtain ⟨a, rfl, ha⟩ := open_u64c Tryz.underlying25 h0
    obtain ⟨b, rfl, hb⟩ := open_u8c Tryz.underlying5 h1
    obtain ⟨c, rfl, hc⟩ := open_i64c Tryz.underlying3 h2
    obtain ⟨d, rfl, hd⟩ := open_i64c Tryz.underlying2 h3
    exact ⟨(a, b, c, d), rfl, ha, hb, hc, hd⟩
theorem open_celc {n : Nat} {v : Value} {y : DataW H × List MemPlace} (h : DataW.trod enc Tryz.prog w base spare held n 28 [v] = some y) : ∃ s : Sl CelM, v = s.v ∧ celsOk w w.heap.size s := by
  obtain ⟨s, hv, h1, h2, h3, h4⟩ := open_sl celC celIn (q := 4) (by omega) Tryz.underlying28 (by kernel_rfl) (fun _ => rfl) (fun _ _ _ hl h => el_cel hl h) h
  exact ⟨s, hv, h1, h2, h3, h4⟩

set_option maxRecDepth 100000 in
theorem el_mrk {n : Nat} {xs : List Value} {y : DataW H × List MemPlace} (hl : xs.length = 3) (h : DataW.trod enc Tryz.prog w base spare held n 87 xs = some y) : ∃ t, xs = mrkC t ∧ mrkIn t := by
  match xs, hl with
  | [c0, c1, c2], _ =>
    obtain ⟨_, _, h0⟩ := field_at Tryz.underlying87 h 0 rfl rfl rfl (by kernel_rfl) rfl
    obtain ⟨_, _, h1⟩ := field_at Tryz.underlying87 h 1 rfl rfl rfl (by kernel_rfl) rfl
    obtain ⟨_, _, h2⟩ := field_at Tryz.underlying87 h 2 rfl rfl rfl (by kernel_rfl) rfl
    obtain ⟨a, rfl, ha⟩ := open_u8c Tryz.underlying5 h0
    obtain ⟨b, rfl, hb⟩ := open_u64c Tryz.underlying25 h1
    obtain ⟨c, rfl, hc⟩ := open_u64c Tryz.underlying25 h2
    exact ⟨(a, b, c), rfl, ha, hb, hc⟩
theorem open_mrkc {n : Nat} {v : Value} {y : DataW H × List MemPlace} (h : DataW.trod enc Tryz.prog w base spare held n 29 [v] = some y) : ∃ s : Sl MrkM, v = s.v ∧ mrksOk w w.heap.size s := by
  obtain ⟨s, hv, h1, h2, h3, h4⟩ := open_sl mrkC mrkIn (q := 3) (by omega) Tryz.underlying29 (by kernel_rfl) (fun _ => rfl) (fun _ _ _ hl h => el_mrk hl h) h
  exact ⟨s, hv, h1, h2, h3, h4⟩
end
end Go.Proofs.YtecbpmnolgkllaaGreat

/-
  Which registers may be: plain mathematics, the code's way and the document's.
-/
namespace Go.Proofs.YtecbpmnolgkllaaGreat
open Go.RowKit

/-- what is wrong with a list's number -/
def risX (l : List Int) (lo hi : Int) (k : Nat) : Bool := match l[k]? with | some n => !(inB n lo hi) || (decide (0 < k) && decide (n ≤ l.getD (k - 1) 0)) | none => true
def risB (l : List Int) (lo hi : Int) : Bool := !(anyB (risX l lo hi) l.length)
def staB (st : Int) (va : List Int) : Bool := inB st 0 31 && decide (va.length ≤ 8)
def repB (r : RepP) : Bool := inB r.1 0 99 && staB r.2.2.1 r.2.2.2
def dnX (l : List DoneP) (k : Nat) : Bool := match l[k]? with | some d => decide (d.2.1 = 0) || !(repB d.2.2) | none => true
def dnsB (l : List DoneP) : Bool := risB (l.map (·.1)) 1 8 && !(anyB (dnX l) l.length)
def ouX (l : List CelM) (k : Nat) : Bool := match l[k]? with | some c => decide (16 ≤ c.2.1) || !(inB c.2.2.1 0 31) | none => true
def ousB (l : List CelM) (la : Int) : Bool := decide (l.length ≤ 8) && (risB (l.map (·.1)) 1 la && !(anyB (ouX l) l.length))
def mkX (l : List MrkM) (k : Nat) : Bool := match l[k]? with | some m => decide (m.2.1 = 0) || decide (m.2.2 = 0) | none => true
def mksB (l : List MrkM) : Bool := risB (l.map (·.1)) 0 15 && !(anyB (mkX l) l.length)
def stnB (r : RegP) : Bool := !(decide (r.inc = 0)) && (staB r.st r.va && (dnsB r.dn && (ousB r.ou r.la && mksB r.ma)))
def mayG (r : RegP) : Bool :=
  if r.ki = 0 then decide (r = zeroP) else if r.ki = 1 then stnB r else if r.ki = 2 then stnB r && (decide (r.st = 0) && (decide (r.va.length = 0) && decide (r.ou.length = 0))) else false

theorem risX_at {l : List Int} {lo hi : Int} {k : Nat} {n : Int} (h : l[k]? = some n) : risX l lo hi k = (!(inB n lo hi) || (decide (0 < k) && decide (n ≤ l.getD (k - 1) 0))) := by unfold risX; rw [h]
theorem risB_true {l : List Int} {lo hi : Int} : risB l lo hi = true ↔ ∀ j, j < l.length → risX l lo hi j = false := by
  unfold risB
  rw [Bool.not_eq_true', anyB_false]
theorem risB_all {l : List Int} {lo hi : Int} {n : Nat} (hn : l.length = n) (h : ∀ j, j < n → risX l lo hi j = false) : risB l lo hi = true := risB_true.2 (by rw [hn]; exact h)
theorem risB_no {l : List Int} {lo hi : Int} {n k : Nat} (hn : l.length = n) (hk : k < n) (h : risX l lo hi k = true) : risB l lo hi = false := by
  unfold risB
  rw [Bool.not_eq_false', anyB_true]
  exact ⟨k, by omega, h⟩
/-- rising numbers: each is as far from the least as its place -/
theorem ris_far {l : List Int} {lo hi : Int} (h : risB l lo hi = true) : ∀ (k : Nat) (n : Int), l[k]? = some n → (lo + k ≤ n ∧ n ≤ hi) := by
  intro k
  induction k with
  | zero =>
    intro n hn
    have h1 := risB_true.1 h 0 (List.getElem?_eq_some_iff.1 hn).1
    rw [risX_at hn] at h1
    simp only [Bool.or_eq_false_iff, Bool.not_eq_false'] at h1
    have := inB_true.1 h1.1
    omega
  | succ k ih =>
    intro n hn
    have hlt := (List.getElem?_eq_some_iff.1 hn).1
    have h1 := risB_true.1 h (k + 1) hlt
    have hk : l[k]? = some l[k] := List.getElem?_eq_getElem (by omega)
    have h2 := ih _ hk
    rw [risX_at hn] at h1
    simp only [Bool.or_eq_false_iff, Bool.not_eq_false', Bool.and_eq_false_iff, decide_eq_false_iff_not] at h1
    have h3 := inB_true.1 h1.1
    have h4 : l.getD (k + 1 - 1) 0 = l[k] := by rw [Nat.add_sub_cancel, List.getD_eq_getElem?_getD, hk]; rfl
    rw [h4] at h1
    rcases h1.2 with h5 | h5
    · omega
    · omega
theorem ris_len {l : List Int} {lo hi : Int} (h : risB l lo hi = true) (hh : lo ≤ hi + 1) : (l.length : Int) ≤ hi + 1 - lo := by
  rcases Nat.eq_zero_or_pos l.length with h0 | h0
  · omega
  · have h1 := ris_far h (l.length - 1) _ (List.getElem?_eq_getElem (by omega))
    omega

theorem dnX_at {l : List DoneP} {k : Nat} {d : DoneP} (h : l[k]? = some d) : dnX l k = (decide (d.2.1 = 0) || !(repB d.2.2)) := by unfold dnX; rw [h]
theorem ouX_at {l : List CelM} {k : Nat} {d : CelM} (h : l[k]? = some d) : ouX l k = (decide (16 ≤ d.2.1) || !(inB d.2.2.1 0 31)) := by unfold ouX; rw [h]
theorem mkX_at {l : List MrkM} {k : Nat} {d : MrkM} (h : l[k]? = some d) : mkX l k = (decide (d.2.1 = 0) || decide (d.2.2 = 0)) := by unfold mkX; rw [h]

/-- the document's way, entry by entry -/
def rdX (l : List DoneP) (k : Nat) : Bool := match l[k]? with
  | some d => decide (d.1 < 1) || (decide (8 < d.1) || (decide (d.2.1 = 0) || (!(repB d.2.2) || (decide (0 < k) && decide (d.1 ≤ (l.map (·.1)).getD (k - 1) 0))))) | none => true
def rcX (la : Int) (l : List CelM) (k : Nat) : Bool := match l[k]? with
  | some c => decide (c.1 < 1) || (decide (la < c.1) || (decide (15 < c.2.1) || (decide (c.2.2.1 < 0) || (decide (31 < c.2.2.1) || (decide (0 < k) && decide (c.1 ≤ (l.map (·.1)).getD (k - 1) 0)))))) | none => true
def rmX (l : List MrkM) (k : Nat) : Bool := match l[k]? with
  | some m => decide (15 < m.1) || (decide (m.2.1 = 0) || (decide (m.2.2 = 0) || (decide (0 < k) && decide (m.1 ≤ (l.map (·.1)).getD (k - 1) 0)))) | none => true
def listsB (r : RegP) : Bool :=
  (decide (r.va.length ≤ 8) && (decide (r.dn.length ≤ 8) && (decide (r.ou.length ≤ 8) && decide (r.ma.length ≤ 16)))) && (!(anyB (rdX r.dn) r.dn.length) && (!(anyB (rcX r.la r.ou) r.ou.length) && !(anyB (rmX r.ma) r.ma.length)))
def refMayG (r : RegP) : Bool :=
  if r.ki = 0 then decide (r.inc = 0) && (decide (r.st = 0) && (decide (r.la = 0) && (decide (r.va.length = 0) && (decide (r.dn.length = 0) && (decide (r.ou.length = 0) && decide (r.ma.length = 0))))))
  else if decide (2 < r.ki) || (decide (r.ki = 2) && (!(decide (r.st = 0)) || (decide (0 < r.va.length) || decide (0 < r.ou.length)))) then false
  else !(decide (r.inc = 0)) && (inB r.st 0 31 && listsB r)
theorem map_at {α : Type} {l : List α} {f : α → Int} {k : Nat} {x : α} (h : l[k]? = some x) : (l.map f)[k]? = some (f x) := by rw [List.getElem?_map, h]; rfl
theorem rd_split {l : List DoneP} {k : Nat} (hk : k < l.length) : rdX l k = (risX (l.map (·.1)) 1 8 k || dnX l k) := by
  have hx := List.getElem?_eq_getElem hk
  rw [risX_at (map_at hx), dnX_at hx]
  unfold rdX
  rw [hx]
  simp only
  generalize l[k] = d
  generalize (l.map (·.1)).getD (k - 1) 0 = p
  unfold inB
  by_cases h1 : d.1 < 1
  · have : ¬ 1 ≤ d.1 := by omega
    simp [h1, this]
  · by_cases h2 : 8 < d.1
    · have : ¬ d.1 ≤ 8 := by omega
      simp [h2, this]
    · have h3 : 1 ≤ d.1 := by omega
      have h4 : d.1 ≤ 8 := by omega
      simp only [h1, h2, h3, h4, decide_false, decide_true, Bool.false_or, Bool.and_self, Bool.not_true]
      cases decide (d.2.1 = 0) <;> cases repB d.2.2 <;> simp
theorem rc_split {l : List CelM} {la : Int} {k : Nat} (hk : k < l.length) : rcX la l k = (risX (l.map (·.1)) 1 la k || ouX l k) := by
  have hx := List.getElem?_eq_getElem hk
  rw [risX_at (map_at hx), ouX_at hx]
  unfold rcX
  rw [hx]
  simp only
  generalize l[k] = d
  generalize (l.map (·.1)).getD (k - 1) 0 = p
  unfold inB
  rw [show decide (d.1 < 1) = !(decide (1 ≤ d.1)) by rw [← decide_not]; congr 1; apply propext; omega, show decide (la < d.1) = !(decide (d.1 ≤ la)) by rw [← decide_not]; congr 1; apply propext; omega,
    show decide (15 < d.2.1) = decide (16 ≤ d.2.1) by congr 1, show decide (d.2.2.1 < 0) = !(decide (0 ≤ d.2.2.1)) by rw [← decide_not]; congr 1; apply propext; omega, show decide (31 < d.2.2.1) = !(decide (d.2.2.1 ≤ 31)) by rw [← decide_not]; congr 1; apply propext; omega]
  cases decide (1 ≤ d.1) <;> cases decide (d.1 ≤ la) <;> cases decide (16 ≤ d.2.1) <;> cases decide (0 ≤ d.2.2.1) <;> cases decide (d.2.2.1 ≤ 31) <;> simp
theorem rm_split {l : List MrkM} {k : Nat} (hk : k < l.length) (h0 : ∀ m ∈ l, 0 ≤ m.1) : rmX l k = (risX (l.map (·.1)) 0 15 k || mkX l k) := by
  have hx := List.getElem?_eq_getElem hk
  have hd := h0 _ (List.getElem_mem hk)
  rw [risX_at (map_at hx), mkX_at hx]
  unfold rmX
  rw [hx]
  simp only
  generalize l[k] = d at hd
  generalize (l.map (·.1)).getD (k - 1) 0 = p
  unfold inB
  rw [show decide (15 < d.1) = !(decide (d.1 ≤ 15)) by rw [← decide_not]; congr 1; apply propext; omega]
  simp only [hd, decide_true, Bool.true_and]
  cases decide (d.1 ≤ 15) <;> cases decide (d.2.1 = 0) <;> cases decide (d.2.2 = 0) <;> simp
theorem any_or {p q r : Nat → Bool} {n : Nat} (h : ∀ k, k < n → r k = (p k || q k)) : anyB r n = (anyB p n || anyB q n) := by
  rw [Bool.eq_iff_iff, Bool.or_eq_true, anyB_true, anyB_true, anyB_true]
  constructor
  · rintro ⟨j, hj, h1⟩
    rw [h j hj, Bool.or_eq_true] at h1
    rcases h1 with h1 | h1
    · exact .inl ⟨j, hj, h1⟩
    · exact .inr ⟨j, hj, h1⟩
  · rintro (⟨j, hj, h1⟩ | ⟨j, hj, h1⟩)
    · exact ⟨j, hj, by rw [h j hj, h1]; rfl⟩
    · exact ⟨j, hj, by rw [h j hj, h1]; simp⟩
theorem dnsB_len {l : List DoneP} (h : dnsB l = true) : l.length ≤ 8 := by
  unfold dnsB at h
  rw [Bool.and_eq_true] at h
  have := ris_len h.1 (by omega)
  rw [List.length_map] at this
  omega
theorem mksB_len {l : List MrkM} (h : mksB l = true) : l.length ≤ 16 := by
  unfold mksB at h
  rw [Bool.and_eq_true] at h
  have := ris_len h.1 (by omega)
  rw [List.length_map] at this
  omega
theorem dns_eq {l : List DoneP} : (!(anyB (rdX l) l.length)) = dnsB l := by
  rw [any_or fun k hk => rd_split hk, Bool.not_or]
  unfold dnsB risB
  rw [List.length_map]
theorem ous_eq {l : List CelM} {la : Int} : (!(anyB (rcX la l) l.length)) = (risB (l.map (·.1)) 1 la && !(anyB (ouX l) l.length)) := by
  rw [any_or fun k hk => rc_split hk, Bool.not_or]
  unfold risB
  rw [List.length_map]
theorem mks_eq {l : List MrkM} (h0 : ∀ m ∈ l, 0 ≤ m.1) : (!(anyB (rmX l) l.length)) = mksB l := by
  rw [any_or fun k hk => rm_split hk h0, Bool.not_or]
  unfold mksB risB
  rw [List.length_map]
theorem len_and {n m : Nat} {b : Bool} (h : b = true → n ≤ m) : (decide (n ≤ m) && b) = b := by
  cases b with
  | false => simp
  | true => simp [h rfl]
theorem lists_eq {r : RegP} (h0 : ∀ m ∈ r.ma, 0 ≤ m.1) : listsB r = (decide (r.va.length ≤ 8) && (dnsB r.dn && (ousB r.ou r.la && mksB r.ma))) := by
  unfold listsB
  rw [dns_eq, ous_eq, mks_eq h0]
  unfold ousB
  have h1 := len_and (n := r.dn.length) (m := 8) (b := dnsB r.dn) dnsB_len
  have h2 := len_and (n := r.ma.length) (m := 16) (b := mksB r.ma) mksB_len
  revert h1 h2
  generalize dnsB r.dn = a
  generalize mksB r.ma = b
  generalize (risB (r.ou.map (·.1)) 1 r.la && !(anyB (ouX r.ou) r.ou.length)) = c
  generalize decide (r.va.length ≤ 8) = d
  generalize decide (r.dn.length ≤ 8) = e
  generalize decide (r.ou.length ≤ 8) = f
  generalize decide (r.ma.length ≤ 16) = g
  cases a <;> cases b <;> cases c <;> cases d <;> cases e <;> cases f <;> cases g <;> simp
theorem refMay_eq {r : RegP} (h0 : ∀ m ∈ r.ma, 0 ≤ m.1) (hk : 0 ≤ r.ki) : refMayG r = mayG r := by
  unfold refMayG mayG
  by_cases k0 : r.ki = 0
  · rw [if_pos k0, if_pos k0]
    obtain ⟨ki, inc, st, va, dn, ou, la, ma⟩ := r
    simp only at k0
    subst k0
    rw [Bool.eq_iff_iff]
    simp only [Bool.and_eq_true, decide_eq_true_eq, zeroP, RegP.mk.injEq, List.length_eq_zero_iff, true_and]
    constructor
    · rintro ⟨rfl, rfl, rfl, rfl, rfl, rfl, rfl⟩
      exact ⟨rfl, rfl, rfl, rfl, rfl, rfl, rfl⟩
    · rintro ⟨rfl, rfl, rfl, rfl, rfl, rfl, rfl⟩
      exact ⟨rfl, rfl, rfl, rfl, rfl, rfl, rfl⟩
  · rw [if_neg k0, if_neg k0]
    have hst : (!(decide (r.inc = 0)) && (inB r.st 0 31 && listsB r)) = stnB r := by
      unfold stnB staB
      rw [lists_eq h0]
      cases inB r.st 0 31 <;> simp
    by_cases k1 : r.ki = 1
    · rw [if_pos k1, if_neg (by rw [k1]; simp), hst]
    · rw [if_neg k1]
      by_cases k2 : r.ki = 2
      · rw [if_pos k2, k2, hst]
        have e1 : decide (0 < r.va.length) = !(decide (r.va.length = 0)) := by rw [← decide_not]; congr 1; apply propext; omega
        have e2 : decide (0 < r.ou.length) = !(decide (r.ou.length = 0)) := by rw [← decide_not]; congr 1; apply propext; omega
        rw [e1, e2]
        cases decide (r.st = 0) <;> cases decide (r.va.length = 0) <;> cases decide (r.ou.length = 0) <;> simp
      · rw [if_neg k2, if_pos]
        simp
        omega
end Go.Proofs.YtecbpmnolgkllaaGreat

/-
  Contracts of reg's within.
-/
namespace Go.Proofs.YtecbpmnolgkllaaGreat
open Go.RowKit

theorem withinInt_any (n a b : Int) (w : World) : Calls Tryz.prog 197 #[.int .i64 n, .int .i64 a, .int .i64 b] w fun e w' => e = .returned (.bool (inB n a b)) ∧ w = w' := by
  by_cases h : a ≤ n
  · by_cases h2 : n ≤ b
    · have HR := hide_ (inB_true.2 ⟨h, h2⟩)
      have hd := decide_eq_true h
      have hd2 := decide_eq_true h2
      go_enter Tryz.func197, Tryz.ntmps197
      go_wp2
      go_ret
      exact ⟨ret_boolT HR.out.symm, rfl⟩
    · have HR := hide_ (inB_false.2 (.inr (by omega)) : inB n a b = false)
      have hd := decide_eq_true h
      have hd2 := decide_eq_false h2
      go_enter Tryz.func197, Tryz.ntmps197
      go_wp2
      go_ret
      exact ⟨ret_boolT HR.out.symm, rfl⟩
  · have HR := hide_ (inB_false.2 (.inl (by omega)) : inB n a b = false)
    have hd := decide_eq_false h
    go_enter Tryz.func197, Tryz.ntmps197
    go_wp2
    go_ret
    exact ⟨ret_boolT HR.out.symm, rfl⟩

theorem within64_any (n a b : Int) (w : World) : Calls Tryz.prog 232 #[.int .u64 n, .int .u64 a, .int .u64 b] w fun e w' => e = .returned (.bool (inB n a b)) ∧ w = w' := by
  by_cases h : a ≤ n
  · by_cases h2 : n ≤ b
    · have HR := hide_ (inB_true.2 ⟨h, h2⟩)
      have hd := decide_eq_true h
      have hd2 := decide_eq_true h2
      go_enter Tryz.func232, Tryz.ntmps232
      go_wp2
      go_ret
      exact ⟨ret_boolT HR.out.symm, rfl⟩
    · have HR := hide_ (inB_false.2 (.inr (by omega)) : inB n a b = false)
      have hd := decide_eq_true h
      have hd2 := decide_eq_false h2
      go_enter Tryz.func232, Tryz.ntmps232
      go_wp2
      go_ret
      exact ⟨ret_boolT HR.out.symm, rfl⟩
  · have HR := hide_ (inB_false.2 (.inl (by omega)) : inB n a b = false)
    have hd := decide_eq_false h
    go_enter Tryz.func232, Tryz.ntmps232
    go_wp2
    go_ret
    exact ⟨ret_boolT HR.out.symm, rfl⟩

theorem withinErr_any (n a b : Int) (w : World) : Calls Tryz.prog 231 #[.int .i64 n, .int .i64 a, .int .i64 b] w fun e w' => e = .returned (.bool (inB n a b)) ∧ w = w' := by
  by_cases h : a ≤ n
  · by_cases h2 : n ≤ b
    · have HR := hide_ (inB_true.2 ⟨h, h2⟩)
      have hd := decide_eq_true h
      have hd2 := decide_eq_true h2
      go_enter Tryz.func231, Tryz.ntmps231
      go_wp2
      go_ret
      exact ⟨ret_boolT HR.out.symm, rfl⟩
    · have HR := hide_ (inB_false.2 (.inr (by omega)) : inB n a b = false)
      have hd := decide_eq_true h
      have hd2 := decide_eq_false h2
      go_enter Tryz.func231, Tryz.ntmps231
      go_wp2
      go_ret
      exact ⟨ret_boolT HR.out.symm, rfl⟩
  · have HR := hide_ (inB_false.2 (.inl (by omega)) : inB n a b = false)
    have hd := decide_eq_false h
    go_enter Tryz.func231, Tryz.ntmps231
    go_wp2
    go_ret
    exact ⟨ret_boolT HR.out.symm, rfl⟩

end Go.Proofs.YtecbpmnolgkllaaGreat
