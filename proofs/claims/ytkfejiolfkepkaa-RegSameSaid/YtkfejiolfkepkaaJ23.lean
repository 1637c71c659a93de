/-
  Texts of this claim put together: Reg.
-/
import Derived.Test.YtkfejiolfkepkaaJ22
import Derived.Test.YtkfejiolfkepkaaJ11
/-
  Registers in memory, and which may be: entries, cells, marks; their bytes.
-/
namespace Go.Proofs.Ytkfejiolfkepkaa
open Go.ChangeShapes Go.WideShapes Go.ChangeAt Go.RowKit Go.Joins Go.Deep

def U64 (x : Int) : Prop := 0 ≤ x ∧ x ≤ 18446744073709551615
def U8 (x : Int) : Prop := 0 ≤ x ∧ x ≤ 255
def intC (x : Int) : List Value := [.int .i64 x]
theorem iv_flat (l : List Int) : l.flatMap intC = iv l := by
  induction l with
  | nil => rfl
  | cons x l ih => rw [List.flatMap_cons, ih]; rfl
abbrev IntS := Sl Int
def intsOk (w : World) (B : Nat) (s : IntS) : Prop := Sl.ok intC (fun _ _ x => I64 x) w B s
theorem ints_stable : Stable intsOk := Sl.stable fun _ _ _ _ _ h _ _ => h
theorem ints_local : Local intsOk (Sl.ft noFt) := Sl.localOf (local_plain _)
theorem intsOk.sees {w : World} {B : Nat} {s : IntS} (h : intsOk w B s) : Sees w B s.A (iv s.l) := by rw [← iv_flat]; exact h.2.2.1

/-- a client's entry -/
structure DoneM where
  cl : Int
  sq : Int
  er : Int
  inc : Int
  st : Int
  va : IntS
def DoneM.cs (d : DoneM) : List Value := [.int .u8 d.cl, .int .u64 d.sq, .int .i64 d.er, .int .u64 d.inc, .int .i64 d.st, d.va.v]
def DoneM.v (d : DoneM) : Value := .agg #[.int .u8 d.cl, .int .u64 d.sq, .int .i64 d.er, .int .u64 d.inc, .int .i64 d.st, d.va.v]
def DoneM.ok (w : World) (B : Nat) (d : DoneM) : Prop := (U8 d.cl ∧ U64 d.sq ∧ I64 d.er ∧ U64 d.inc ∧ I64 d.st) ∧ intsOk w B d.va
def DoneM.ft (d : DoneM) : Nat → Prop := Sl.ft noFt d.va
abbrev RepP := Int × Int × Int × List Int
abbrev DoneP := Int × Int × RepP
def DoneM.p (d : DoneM) : DoneP := (d.cl, d.sq, d.er, d.inc, d.st, d.va.l)
theorem done_stable : Stable DoneM.ok := fun w w' B B' x h hk hB => ⟨h.1, ints_stable w w' B B' x.va h.2 hk hB⟩
theorem done_local : Local DoneM.ok DoneM.ft := fun w w' B B' x h hk hB => ⟨h.1, ints_local w w' B B' x.va h.2 hk hB⟩
def dnsOk (w : World) (B : Nat) (s : Sl DoneM) : Prop := Sl.ok DoneM.cs DoneM.ok w B s
theorem dns_stable : Stable dnsOk := Sl.stable done_stable
theorem dns_local : Local dnsOk (Sl.ft DoneM.ft) := Sl.localOf done_local

/-- a cell: number, target, action, argument -/
abbrev CelM := Int × Int × Int × Int
def celC (c : CelM) : List Value := [.int .u64 c.1, .int .u8 c.2.1, .int .i64 c.2.2.1, .int .i64 c.2.2.2]
def celV (c : CelM) : Value := .agg #[.int .u64 c.1, .int .u8 c.2.1, .int .i64 c.2.2.1, .int .i64 c.2.2.2]
def celIn (c : CelM) : Prop := U64 c.1 ∧ U8 c.2.1 ∧ I64 c.2.2.1 ∧ I64 c.2.2.2
def celsOk (w : World) (B : Nat) (s : Sl CelM) : Prop := Sl.ok celC (fun _ _ c => celIn c) w B s
theorem cels_stable : Stable celsOk := Sl.stable fun _ _ _ _ _ h _ _ => h
theorem cels_local : Local celsOk (Sl.ft noFt) := Sl.localOf (local_plain _)
/-- a mark: source, incarnation, cell -/
abbrev MrkM := Int × Int × Int
def mrkC (c : MrkM) : List Value := [.int .u8 c.1, .int .u64 c.2.1, .int .u64 c.2.2]
def mrkV (c : MrkM) : Value := .agg #[.int .u8 c.1, .int .u64 c.2.1, .int .u64 c.2.2]
def mrkIn (c : MrkM) : Prop := U8 c.1 ∧ U64 c.2.1 ∧ U64 c.2.2
def mrksOk (w : World) (B : Nat) (s : Sl MrkM) : Prop := Sl.ok mrkC (fun _ _ c => mrkIn c) w B s
theorem mrks_stable : Stable mrksOk := Sl.stable fun _ _ _ _ _ h _ _ => h
theorem mrks_local : Local mrksOk (Sl.ft noFt) := Sl.localOf (local_plain _)

/-- a register -/
structure RegM where
  ki : Int
  inc : Int
  st : Int
  va : IntS
  dn : Sl DoneM
  ou : Sl CelM
  la : Int
  ma : Sl MrkM
def RegM.cs (r : RegM) : List Value := [.int .u8 r.ki, .int .u64 r.inc, .int .i64 r.st, r.va.v, r.dn.v, r.ou.v, .int .u64 r.la, r.ma.v]
def RegM.v (r : RegM) : Value := .agg #[.int .u8 r.ki, .int .u64 r.inc, .int .i64 r.st, r.va.v, r.dn.v, r.ou.v, .int .u64 r.la, r.ma.v]
def RegM.ok (w : World) (B : Nat) (r : RegM) : Prop := (U8 r.ki ∧ U64 r.inc ∧ I64 r.st ∧ U64 r.la) ∧ intsOk w B r.va ∧ dnsOk w B r.dn ∧ celsOk w B r.ou ∧ mrksOk w B r.ma
def RegM.ft (r : RegM) (k : Nat) : Prop := Sl.ft noFt r.va k ∨ Sl.ft DoneM.ft r.dn k ∨ Sl.ft noFt r.ou k ∨ Sl.ft noFt r.ma k
theorem reg_stable : Stable RegM.ok := fun w w' B B' x h hk hB => ⟨h.1, ints_stable w w' B B' x.va h.2.1 hk hB, dns_stable w w' B B' x.dn h.2.2.1 hk hB, cels_stable w w' B B' x.ou h.2.2.2.1 hk hB, mrks_stable w w' B B' x.ma h.2.2.2.2 hk hB⟩
theorem reg_local : Local RegM.ok RegM.ft := fun w w' B B' x h hk hB =>
  ⟨h.1, ints_local w w' B B' x.va h.2.1 (fun q hq => hk q (.inl hq)) hB, dns_local w w' B B' x.dn h.2.2.1 (fun q hq => hk q (.inr (.inl hq))) hB,
   cels_local w w' B B' x.ou h.2.2.2.1 (fun q hq => hk q (.inr (.inr (.inl hq)))) hB, mrks_local w w' B B' x.ma h.2.2.2.2 (fun q hq => hk q (.inr (.inr (.inr hq)))) hB⟩
/-- what it holds -/
structure RegP where
  ki : Int
  inc : Int
  st : Int
  va : List Int
  dn : List DoneP
  ou : List CelM
  la : Int
  ma : List MrkM
deriving DecidableEq
def RegM.p (r : RegM) : RegP := ⟨r.ki, r.inc, r.st, r.va.l, r.dn.l.map DoneM.p, r.ou.l, r.la, r.ma.l⟩
def zeroP : RegP := ⟨0, 0, 0, [], [], [], 0, []⟩
def zeroM : RegM := ⟨0, 0, 0, ⟨none, 0, []⟩, ⟨none, 0, []⟩, ⟨none, 0, []⟩, 0, ⟨none, 0, []⟩⟩
theorem zeroM_p : zeroM.p = zeroP := rfl
theorem zeroM_ok (w : World) (B : Nat) : RegM.ok w B zeroM :=
  ⟨by unfold zeroM U8 U64 I64; simp, ⟨by simp [zeroM], by simp [zeroM, maxLen], Sees.empty _ _ _, by simp [zeroM]⟩, ⟨by simp [zeroM], by simp [zeroM, maxLen], Sees.empty _ _ _, by simp [zeroM]⟩, ⟨by simp [zeroM], by simp [zeroM, maxLen], Sees.empty _ _ _, by simp [zeroM]⟩, ⟨by simp [zeroM], by simp [zeroM, maxLen], Sees.empty _ _ _, by simp [zeroM]⟩⟩

section
variable {w : World} {B : Nat} {A : Option Addr}
theorem Sees.i64 {l : List Int} {k : Nat} {x : Int} (h : Sees w B A (l.flatMap intC)) (hk : l[k]? = some x) :
    ∃ b o, A = some ⟨b, o, none⟩ ∧ b < B ∧ w.cell? ⟨b, o + k, none⟩ = some (.int .i64 x) := by
  obtain ⟨b, o, e, hb, hc⟩ := h.at (q := 1) (fun _ => rfl) (by omega) hk
  exact ⟨b, o, e, hb, by simpa using hc 0 _ rfl⟩
theorem Sees.done {l : List DoneM} {k : Nat} {x : DoneM} (h : Sees w B A (l.flatMap DoneM.cs)) (hk : l[k]? = some x) :
    ∃ b o, A = some ⟨b, o, none⟩ ∧ b < B ∧ w.cell? ⟨b, o + k * 6, none⟩ = some (.int .u8 x.cl) ∧ w.cell? ⟨b, o + k * 6 + 1, none⟩ = some (.int .u64 x.sq) ∧ w.cell? ⟨b, o + k * 6 + 2, none⟩ = some (.int .i64 x.er) ∧
      w.cell? ⟨b, o + k * 6 + 3, none⟩ = some (.int .u64 x.inc) ∧ w.cell? ⟨b, o + k * 6 + 4, none⟩ = some (.int .i64 x.st) ∧ w.cell? ⟨b, o + k * 6 + 5, none⟩ = some (.slice x.va.A x.va.l.length x.va.c) := by
  obtain ⟨b, o, e, hb, hc⟩ := h.at (q := 6) (fun _ => rfl) (by omega) hk
  exact ⟨b, o, e, hb, hc 0 _ rfl, hc 1 _ rfl, hc 2 _ rfl, hc 3 _ rfl, hc 4 _ rfl, hc 5 _ rfl⟩
theorem Sees.cel {l : List CelM} {k : Nat} {x : CelM} (h : Sees w B A (l.flatMap celC)) (hk : l[k]? = some x) :
    ∃ b o, A = some ⟨b, o, none⟩ ∧ b < B ∧ w.cell? ⟨b, o + k * 4, none⟩ = some (.int .u64 x.1) ∧ w.cell? ⟨b, o + k * 4 + 1, none⟩ = some (.int .u8 x.2.1) ∧ w.cell? ⟨b, o + k * 4 + 2, none⟩ = some (.int .i64 x.2.2.1) ∧ w.cell? ⟨b, o + k * 4 + 3, none⟩ = some (.int .i64 x.2.2.2) := by
  obtain ⟨b, o, e, hb, hc⟩ := h.at (q := 4) (fun _ => rfl) (by omega) hk
  exact ⟨b, o, e, hb, hc 0 _ rfl, hc 1 _ rfl, hc 2 _ rfl, hc 3 _ rfl⟩
theorem Sees.mrk {l : List MrkM} {k : Nat} {x : MrkM} (h : Sees w B A (l.flatMap mrkC)) (hk : l[k]? = some x) :
    ∃ b o, A = some ⟨b, o, none⟩ ∧ b < B ∧ w.cell? ⟨b, o + k * 3, none⟩ = some (.int .u8 x.1) ∧ w.cell? ⟨b, o + k * 3 + 1, none⟩ = some (.int .u64 x.2.1) ∧ w.cell? ⟨b, o + k * 3 + 2, none⟩ = some (.int .u64 x.2.2) := by
  obtain ⟨b, o, e, hb, hc⟩ := h.at (q := 3) (fun _ => rfl) (by omega) hk
  exact ⟨b, o, e, hb, hc 0 _ rfl, hc 1 _ rfl, hc 2 _ rfl⟩
end

section
variable {H : Type} {enc : TypeId × Value → H} {w : World} {base : Nat} {spare : Nat → Bool} {held : Bool}

theorem open_u64c {n : Nat} {t : TypeId} {v : Value} {y : DataW H × List MemPlace} (ht : Try.prog.underlying t = some (.int .u64)) (h : DataW.trod enc Try.prog w base spare held n t [v] = some y) : ∃ x : Int, v = .int .u64 x ∧ U64 x := by
  obtain ⟨a, rfl, wa⟩ := open_numI ht h
  exact ⟨a, rfl, by unfold U64; simpa [Lit.wf, IntKind.min, IntKind.max, IntKind.signed, IntKind.bits] using wa⟩

theorem el_i64 {n : Nat} {xs : List Value} {y : DataW H × List MemPlace} (hl : xs.length = 1) (h : DataW.trod enc Try.prog w base spare held n 2 xs = some y) : ∃ t, xs = intC t ∧ I64 t := by
  match xs, hl with
  | [c0], _ =>
    obtain ⟨a, rfl, ha⟩ := open_i64c Try.underlying2 h
    exact ⟨a, rfl, ha⟩
theorem open_intc {n : Nat} {v : Value} {y : DataW H × List MemPlace} (h : DataW.trod enc Try.prog w base spare held n 24 [v] = some y) : ∃ s : IntS, v = s.v ∧ intsOk w w.heap.size s := by
  obtain ⟨s, hv, h1, h2, h3, h4⟩ := open_sl intC I64 (q := 1) (by omega) Try.underlying24 (by kernel_rfl) (fun _ => rfl) (fun _ _ _ hl h => el_i64 hl h) h
  exact ⟨s, hv, h1, h2, h3, h4⟩

set_option maxRecDepth 100000 in
theorem el_cel {n : Nat} {xs : List Value} {y : DataW H × List MemPlace} (hl : xs.length = 4) (h : DataW.trod enc Try.prog w base spare held n 49 xs = some y) : ∃ t, xs = celC t ∧ celIn t := by
  match xs, hl with
  | [c0, c1, c2, c3], _ =>
    obtain ⟨_, _, h0⟩ := field_at Try.underlying49 h 0 rfl rfl rfl (by kernel_rfl) rfl
    obtain ⟨_, _, h1⟩ := field_at Try.underlying49 h 1 rfl rfl rfl (by kernel_rfl) rfl
    obtain ⟨_, _, h2⟩ := field_at Try.underlying49 h 2 rfl rfl rfl (by kernel_rfl) rfl
    obtain ⟨_, _, h3⟩ := field_at Try.underlying49 h 3 rfl rfl rfl (by kernel_rfl) rfl
    obtain ⟨a, rfl, ha⟩ := open_u64c Try.underlying23 h0
    obtain ⟨b, rfl, hb⟩ := open_u8c Try.underlying5 h1
    obtain ⟨c, rfl, hc⟩ := open_i64c Try.underlying3 h2
    obtain ⟨d, rfl, hd⟩ := open_i64c Try.underlying2 h3
    exact ⟨(a, b, c, d), rfl, ha, hb, hc, hd⟩
theorem open_celc {n : Nat} {v : Value} {y : DataW H × List MemPlace} (h : DataW.trod enc Try.prog w base spare held n 26 [v] = some y) : ∃ s : Sl CelM, v = s.v ∧ celsOk w w.heap.size s := by
  obtain ⟨s, hv, h1, h2, h3, h4⟩ := open_sl celC celIn (q := 4) (by omega) Try.underlying26 (by kernel_rfl) (fun _ => rfl) (fun _ _ _ hl h => el_cel hl h) h
  exact ⟨s, hv, h1, h2, h3, h4⟩

set_option maxRecDepth 100000 in
theorem el_mrk {n : Nat} {xs : List Value} {y : DataW H × List MemPlace} (hl : xs.length = 3) (h : DataW.trod enc Try.prog w base spare held n 51 xs = some y) : ∃ t, xs = mrkC t ∧ mrkIn t := by
  match xs, hl with
  | [c0, c1, c2], _ =>
    obtain ⟨_, _, h0⟩ := field_at Try.underlying51 h 0 rfl rfl rfl (by kernel_rfl) rfl
    obtain ⟨_, _, h1⟩ := field_at Try.underlying51 h 1 rfl rfl rfl (by kernel_rfl) rfl
    obtain ⟨_, _, h2⟩ := field_at Try.underlying51 h 2 rfl rfl rfl (by kernel_rfl) rfl
    obtain ⟨a, rfl, ha⟩ := open_u8c Try.underlying5 h0
    obtain ⟨b, rfl, hb⟩ := open_u64c Try.underlying23 h1
    obtain ⟨c, rfl, hc⟩ := open_u64c Try.underlying23 h2
    exact ⟨(a, b, c), rfl, ha, hb, hc⟩
theorem open_mrkc {n : Nat} {v : Value} {y : DataW H × List MemPlace} (h : DataW.trod enc Try.prog w base spare held n 27 [v] = some y) : ∃ s : Sl MrkM, v = s.v ∧ mrksOk w w.heap.size s := by
  obtain ⟨s, hv, h1, h2, h3, h4⟩ := open_sl mrkC mrkIn (q := 3) (by omega) Try.underlying27 (by kernel_rfl) (fun _ => rfl) (fun _ _ _ hl h => el_mrk hl h) h
  exact ⟨s, hv, h1, h2, h3, h4⟩
end
end Go.Proofs.Ytkfejiolfkepkaa
