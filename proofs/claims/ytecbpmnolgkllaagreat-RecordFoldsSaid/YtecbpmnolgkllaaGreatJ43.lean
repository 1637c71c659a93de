/-
  Texts of this claim put together: Msg1, OpenN.
-/
import Derived.Test.YtecbpmnolgkllaaGreatJ21
import Derived.Test.YtecbpmnolgkllaaGreatJ36
import Derived.Test.YtecbpmnolgkllaaGreatJ22
import Derived.Test.YtecbpmnolgkllaaGreatJ41
/-
  Messages: their parts; which may be: contracts of msg's May and of what it calls.
-/
namespace Go.Proofs.YtecbpmnolgkllaaGreat
open Go.RowKit

/-- a message in memory -/
structure MsgM where
  ki : Nat
  fr : Nat
  tt : Nat
  ke : Nat
  co : Nat
  bc : Nat
  bn : Nat
  bl : Nat
  ok : Bool
  ac : Nat
  an : Nat
  al : Nat
  r : RegM
  nc : Nat
  nn : Nat
  nl : Nat
  mx : Nat
/-- a message -/
structure MsgP where
  ki : Nat
  fr : Nat
  tt : Nat
  ke : Nat
  co : Nat
  bc : Nat
  bn : Nat
  bl : Nat
  ok : Bool
  ac : Nat
  an : Nat
  al : Nat
  r : RegP
  nc : Nat
  nn : Nat
  nl : Nat
  mx : Nat
deriving DecidableEq
def MsgM.p (m : MsgM) : MsgP := ⟨m.ki, m.fr, m.tt, m.ke, m.co, m.bc, m.bn, m.bl, m.ok, m.ac, m.an, m.al, m.r.p, m.nc, m.nn, m.nl, m.mx⟩
def MsgM.box (m : MsgM) : Array Value := #[.int .u8 m.ki, .int .u8 m.fr, .int .u8 m.tt, .int .u8 m.ke, .int .u64 m.co, .int .u64 m.bc, .int .u8 m.bn, .int .u32 m.bl, .bool m.ok, .int .u64 m.ac, .int .u8 m.an, .int .u32 m.al,
  .int .u8 m.r.ki, .int .u64 m.r.inc, .int .i64 m.r.st, .slice m.r.va.A m.r.va.l.length m.r.va.c, .slice m.r.dn.A m.r.dn.l.length m.r.dn.c, .slice m.r.ou.A m.r.ou.l.length m.r.ou.c, .int .u64 m.r.la, .slice m.r.ma.A m.r.ma.l.length m.r.ma.c,
  .int .u64 m.nc, .int .u8 m.nn, .int .u32 m.nl, .int .u64 m.mx]
def MsgM.v (m : MsgM) : Value := .agg m.box
def N64 (n : Nat) : Prop := n < 18446744073709551616
def BalIn (c n l : Nat) : Prop := N64 c ∧ n ≤ 255 ∧ l ≤ 4294967295
def MsgM.ok' (m : MsgM) : Prop := (m.ki ≤ 255 ∧ m.fr ≤ 255 ∧ m.tt ≤ 255 ∧ m.ke ≤ 255) ∧ (N64 m.co ∧ N64 m.mx) ∧ BalIn m.bc m.bn m.bl ∧ BalIn m.ac m.an m.al ∧ BalIn m.nc m.nn m.nl
def MsgM.good (w : World) (B : Nat) (m : MsgM) : Prop := m.ok' ∧ RegM.ok w B m.r
theorem msg_stable : Stable MsgM.good := fun w w' B B' x h hk hB => ⟨h.1, reg_stable w w' B B' x.r h.2 hk hB⟩
theorem msg_local : Local MsgM.good (fun m => RegM.ft m.r) := fun w w' B B' x h hk hB => ⟨h.1, reg_local w w' B B' x.r h.2 hk hB⟩
def zeroMsg : MsgM := ⟨0, 0, 0, 0, 0, 0, 0, 0, false, 0, 0, 0, zeroM, 0, 0, 0, 0⟩
theorem zeroMsg_good (w : World) (B : Nat) : MsgM.good w B zeroMsg := ⟨by simp [MsgM.ok', BalIn, N64, zeroMsg], zeroM_ok w B⟩

def noneB (c n l : Nat) : Bool := decide (c = 0) && (decide (n = 0) && decide (l = 0))
theorem noneB_true {c n l : Nat} : noneB c n l = true ↔ c = 0 ∧ n = 0 ∧ l = 0 := by simp [noneB]
def hasB (p : MsgP) : Bool := noneB p.ac p.an p.al && decide (p.r = zeroP)
def promB (p : MsgP) : Bool := if p.ok then (decide (p.r.ki = 0) || !noneB p.ac p.an p.al) && (mayG p.r && decide (p.mx = 0)) else hasB p
def nextB (p : MsgP) : Bool := noneB p.nc p.nn p.nl || (decide (p.nn = p.bn) && (decide (p.nl = p.bl) && decide (p.bc < p.nc)))
def tellB (p : MsgP) : Bool :=
  if p.ki = 1 then !p.ok && (hasB p && (noneB p.nc p.nn p.nl && decide (p.mx = 0)))
  else if p.ki = 2 then promB p && noneB p.nc p.nn p.nl
  else if p.ki = 3 then !p.ok && (noneB p.ac p.an p.al && (mayG p.r && (nextB p && decide (p.mx = 0))))
  else if p.ki = 4 then hasB p && (noneB p.nc p.nn p.nl && (!p.ok || decide (p.mx = 0)))
  else false
def mayM (p : MsgP) : Bool := decide (p.fr < 64) && (decide (p.tt < 64) && (decide (p.ke < 16) && (!noneB p.bc p.bn p.bl && tellB p)))

theorem None_any (c n l : Nat) (w : World) : Calls Tryz.prog 144 #[.agg #[.int .u64 c, .int .u8 n, .int .u32 l]] w fun e w' => e = .returned (.bool (noneB c n l)) ∧ Below w.heap.size w w' := by
  by_cases h : c = 0 ∧ n = 0 ∧ l = 0
  · obtain ⟨rfl, rfl, rfl⟩ := h
    exact None_yes w
  · rw [show noneB c n l = false from by rw [← Bool.not_eq_true, noneB_true]; exact h]
    exact None_no c n l h w




theorem cmp_count {c c' n l : Nat} : decide ((0 : Int) < cmpB c n l c' n l) = decide (c' < c) := by
  rw [cmpB_less]
  by_cases h : c = c'
  · subst h
    simp [lessB]
  · by_cases h2 : c < c'
    · have : ¬ c' < c := by omega
      simp [lessB, h, h2, this]
    · have h3 : c' < c := by omega
      simp [lessB, h, h2, h3, Ne.symm h]




end Go.Proofs.YtecbpmnolgkllaaGreat
/-
  How numbers and ballots come in.
-/
namespace Go.Proofs.YtecbpmnolgkllaaGreat
open Go.ChangeShapes Go.WideShapes Go.ChangeAt Go.RowKit Go.Joins Go.Deep

section
variable {H : Type} {enc : TypeId × Value → H} {w : World} {base : Nat} {spare : Nat → Bool} {held : Bool}

theorem nat_u64 {x : Int} (h : U64 x) : ∃ n : Nat, x = n ∧ N64 n := by
  obtain ⟨n, rfl⟩ := Int.eq_ofNat_of_zero_le h.1
  exact ⟨n, rfl, by have := h.2; unfold N64; omega⟩
theorem nat_u8 {x : Int} (h : 0 ≤ x ∧ x ≤ 255) : ∃ n : Nat, x = n ∧ n ≤ 255 := by
  obtain ⟨n, rfl⟩ := Int.eq_ofNat_of_zero_le h.1
  exact ⟨n, rfl, by omega⟩
theorem open_u32n {n : Nat} {t : TypeId} {v : Value} {y : DataW H × List MemPlace} (ht : Tryz.prog.underlying t = some (.int .u32)) (h : DataW.trod enc Tryz.prog w base spare held n t [v] = some y) : ∃ x : Nat, v = .int .u32 x ∧ x ≤ 4294967295 := by
  obtain ⟨a, rfl, wa⟩ := open_numI ht h
  have h2 : 0 ≤ a ∧ a ≤ 4294967295 := by simpa [Lit.wf, IntKind.min, IntKind.max, IntKind.signed, IntKind.bits] using wa
  obtain ⟨m, rfl⟩ := Int.eq_ofNat_of_zero_le h2.1
  exact ⟨m, rfl, by omega⟩
theorem open_u64n {n : Nat} {t : TypeId} {v : Value} {y : DataW H × List MemPlace} (ht : Tryz.prog.underlying t = some (.int .u64)) (h : DataW.trod enc Tryz.prog w base spare held n t [v] = some y) : ∃ x : Nat, v = .int .u64 x ∧ N64 x := by
  obtain ⟨a, rfl, wa⟩ := open_u64c ht h
  obtain ⟨m, rfl, hm⟩ := nat_u64 wa
  exact ⟨m, rfl, hm⟩
theorem open_u8n {n : Nat} {t : TypeId} {v : Value} {y : DataW H × List MemPlace} (ht : Tryz.prog.underlying t = some (.int .u8)) (h : DataW.trod enc Tryz.prog w base spare held n t [v] = some y) : ∃ x : Nat, v = .int .u8 x ∧ x ≤ 255 := by
  obtain ⟨a, rfl, wa⟩ := open_u8c ht h
  obtain ⟨m, rfl, hm⟩ := nat_u8 wa
  exact ⟨m, rfl, hm⟩

set_option maxRecDepth 100000 in
theorem el_bal {n : Nat} {xs : List Value} {y : DataW H × List MemPlace} (hl : xs.length = 3) (h : DataW.trod enc Tryz.prog w base spare held n 49 xs = some y) : ∃ a b c : Nat, xs = [.int .u64 a, .int .u8 b, .int .u32 c] ∧ BalIn a b c := by
  match xs, hl with
  | [c0, c1, c2], _ =>
    obtain ⟨_, _, h0⟩ := field_at Tryz.underlying49 h 0 rfl rfl rfl (by kernel_rfl) rfl
    obtain ⟨_, _, h1⟩ := field_at Tryz.underlying49 h 1 rfl rfl rfl (by kernel_rfl) rfl
    obtain ⟨_, _, h2⟩ := field_at Tryz.underlying49 h 2 rfl rfl rfl (by kernel_rfl) rfl
    obtain ⟨a, rfl, ha⟩ := open_u64n Tryz.underlying25 h0
    obtain ⟨b, rfl, hb⟩ := open_u8n Tryz.underlying5 h1
    obtain ⟨c, rfl, hc⟩ := open_u32n Tryz.underlying47 h2
    exact ⟨a, b, c, rfl, ha, hb, hc⟩
end
end Go.Proofs.YtecbpmnolgkllaaGreat
