/-
  The document's disk, a value: as plain data, and as it lies in memory.
-/
import Derived.Test.YtcpoppfifadbiaaStep12
import Derived.Deep.RegionHeld
namespace Go.Proofs.Ytcpoppfifadbiaa
open Go.RowKit

/-- the document's disk -/
structure RP where
  n : Nat
  c : Nat
  k : List (List UInt8)
  ws : List (Nat × List UInt8)
  off : Bool
  falls : Int
  fuse : Int
/-- .. as it lies in memory -/
structure RdM where
  n : Nat
  c : Nat
  kA : Option Addr
  kc : Nat
  k : List (List UInt8)
  wA : Option Addr
  wc : Nat
  ws : List (Nat × List UInt8)
  off : Bool
  falls : Int
  fuse : Int
def strC (k : List (List UInt8)) : List Value := k.map fun l => Value.string (strOf l)
def wC (ws : List (Nat × List UInt8)) : List Value := ws.flatMap fun q => [.int .i64 (q.1 : Int), .string (strOf q.2)]
def RdM.cs (x : RdM) : Array Value := #[.int .i64 (x.n : Int), .int .i64 (x.c : Int), .slice x.kA x.k.length x.kc, .slice x.wA x.ws.length x.wc, .bool x.off, .int .u64 x.falls, .int .i64 x.fuse]
def RdM.v (x : RdM) : Value := .agg x.cs
def RdM.p (x : RdM) : RP := ⟨x.n, x.c, x.k, x.ws, x.off, x.falls, x.fuse⟩
structure RdM.ok (w : World) (x : RdM) : Prop where
  k : w.ownsRow 0 9 1 (.slice x.kA x.k.length x.kc) x.k.length (strC x.k)
  ws : w.ownsRow 0 78 2 (.slice x.wA x.ws.length x.wc) x.ws.length (wC x.ws)
  f : x.fuse ≤ 9223372036854775807 ∧ -1 ≤ x.fuse
  sz : x.n ≤ 512 ∧ 64 ≤ x.n ∧ x.c ≤ 4096 ∧ x.k.length = x.c ∧ x.ws.length ≤ 100000
  kl : ∀ l ∈ x.k, l.length = x.n
  wl : ∀ q ∈ x.ws, q.1 < x.c ∧ q.2.length = x.n
theorem RdM.ok.below {w w' : World} {x : RdM} (h : RdM.ok w x) (hb : Below w.heap.size w w') : RdM.ok w' x := ⟨own_below h.k hb, own_below h.ws hb, h.f, h.sz, h.kl, h.wl⟩
/-- a disk's doings leave it as it is -/
theorem row_chg {w w' : World} {L : Lay} {D : Dk} {s n : Nat} {e : TypeId} {A : Option Addr} {cp : Nat} {xs : List Value} (h : w.ownsRow 0 e s (.slice A n cp) n xs) (he : e ≠ 64 ∧ e ≠ 95 ∧ e ≠ 5) (hd : DiskAt w L D) (hc : Chg L.has w w') : w'.ownsRow 0 e s (.slice A n cp) n xs := by
  refine ownsRow_stay h fun g o q eA => ?_
  rcases h.2 with ⟨hv, _⟩ | ⟨g', cap, cur, hv, _, hg, _⟩
  · injection hv with hv
    rw [eA] at hv
    cases hv
  · injection hv with hv
    rw [eA] at hv
    injection hv with hv
    injection hv with hv
    subst hv
    refine hc.block _ (Array.getElem?_eq_some_iff.1 hg).1 ?_
    rintro (rfl | rfl | ⟨o, s, e'⟩ | ⟨i, e'⟩ | ⟨p, hp, rfl⟩)
    · exact two_kinds hg hd.box he.1 rfl
    · obtain ⟨es, k, em⟩ := hd.map.is
      exact map_kind hg em rfl
    · obtain ⟨cur', hx⟩ := hd.kA e'
      exact two_kinds hg hx he.2.1 rfl
    · obtain ⟨cur', hx⟩ := hd.kK e'
      exact two_kinds hg hx he.2.2 rfl
    · obtain ⟨cur', hx⟩ := hd.kG hp
      exact two_kinds hg hx he.2.2 rfl
theorem RdM.ok.chg {w w' : World} {x : RdM} {L : Lay} {D : Dk} (h : RdM.ok w x) (hd : DiskAt w L D) (hc : Chg L.has w w') : RdM.ok w' x := ⟨row_chg h.k (by decide) hd hc, row_chg h.ws (by decide) hd hc, h.f, h.sz, h.kl, h.wl⟩

/-- what a disk is to the document -/
def refOf (D : Dk) : RP := ⟨D.n, D.c, (List.range D.c).map D.kept, D.waits, !D.on, D.falls, if D.hf then D.left else -1⟩

def fallsP (p : RP) : RP := { p with off := true, falls := if p.off then p.falls else IntKind.u64.wrap (p.falls + 1) }
def burnsP (p : RP) : Bool × RP := if p.fuse < 0 then (false, p) else if p.fuse = 0 then (true, fallsP p) else (false, { p with fuse := p.fuse - 1 })
def setl (k : List (List UInt8)) (q : Nat × List UInt8) : List (List UInt8) := k.set q.1 q.2
def settledP (p : RP) (l : List (Nat × List UInt8)) : RP := { p with k := l.foldl setl p.k }
def lastP (s : List UInt8) (i : Int) (l : List (Nat × List UInt8)) : List UInt8 := l.foldl (fun s q => if (q.1 : Int) = i then q.2 else s) s
def rerrP (p : RP) (i : Int) : Int := if p.off then 8 else if 0 ≤ i ∧ i < p.c then 0 else 6
def readP (p : RP) (i : Int) : List UInt8 := if rerrP p i = 0 then lastP (p.k.getD i.toNat []) i p.ws else []
def werrP (p : RP) (i : Int) (m : Nat) : Int := if rerrP p i = 0 then if m = p.n then if (burnsP p).1 then 8 else 0 else 3 else rerrP p i
def writeP (p : RP) (i : Int) (s : List UInt8) : RP := if rerrP p i = 0 then if s.length = p.n then (burnsP { p with ws := p.ws ++ [(i.toNat, s)] }).2 else p else p
def synerrP (p : RP) : Int := if p.off then 8 else if (burnsP p).1 then 8 else 0
def syncP (p : RP) : RP := if p.off then p else if (burnsP p).1 then (burnsP p).2 else { settledP (burnsP p).2 (burnsP p).2.ws with ws := [] }
def tornP (n : Nat) (k : List (List UInt8)) (q : Nat × List UInt8) : Nat × List UInt8 := (q.1, q.2.take (n / 2) ++ (k.getD q.1 []).drop (n / 2))
def backP (p : RP) (keep : Int) (torn : Bool) : RP :=
  let m := min keep.toNat p.ws.length
  let f := fallsP p
  let s := if torn = true ∧ 0 < m then settledP (settledP f (p.ws.take (m - 1))) [tornP p.n ((p.ws.take (m - 1)).foldl setl p.k) (p.ws.getD (m - 1) (0, []))] else settledP f (p.ws.take m)
  { s with ws := [], off := false, fuse := -1 }
def serrP (p : RP) (i a : Int) : Int := if (0 ≤ i ∧ i < p.c) ∧ 0 ≤ a ∧ a < p.n then 0 else 6
def spoilP (p : RP) (i a : Int) (b : UInt8) : RP := if serrP p i a = 0 then { p with k := p.k.set i.toNat ((p.k.getD i.toNat []).set a.toNat ((p.k.getD i.toNat []).getD a.toNat 0 ^^^ b)) } else p

/-- what a function of the document's leaves that answers a disk -/
def Ref12 (w : World) (P : RP) (e : Ending) (w' : World) : Prop := ∃ x : RdM, e = .returned x.v ∧ x.p = P ∧ RdM.ok w' x ∧ Below w.heap.size w w'

theorem zeros_any (n : Nat) (hn : n ≤ 1000) (w : World) : Calls Try.prog 28 #[.int .i64 (n : Int)] w fun e w' => e = .returned (.string (strOf (List.replicate n 0))) ∧ Below w.heap.size w w' := by
  have hmk := make12 n (by omega) w
  have hcv := run_str (P := Try.prog) (w.alloc (.cells (zs12 n) 5)) 38 9 5 Try.underlying38 Try.underlying5 Try.underlying9 (List.replicate n 0) _ (some ⟨w.heap.size, 0, none⟩) n n (by simp) (row_new12 w n).sees
  go_enter Try.func28, Try.ntmps28
  go_wp2
  go_ret
  exact ⟨rfl, (Below.refl _ _).alloc (Nat.le_refl _) _⟩
end Go.Proofs.Ytcpoppfifadbiaa
