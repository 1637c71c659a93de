/-
  Texts of this claim put together: Msg1, OpenN, MsgP.
-/
import Derived.Test.YtnkjdijbfnmnhaaGreatJ24
import Derived.Test.YtnkjdijbfnmnhaaGreatJ35
import Derived.Test.YtnkjdijbfnmnhaaGreatJ25
import Derived.Test.YtnkjdijbfnmnhaaGreatJ41
import Derived.Test.YtnkjdijbfnmnhaaGreatJ05
import Derived.Test.YtnkjdijbfnmnhaaGreatJ20
import Derived.Deep.RegionHeld
/-
  Messages: their parts; which may be: contracts of msg's May and of what it calls.
-/
namespace Go.Proofs.YtnkjdijbfnmnhaaGreat
open Go.RowKit

/-- a message in memory -/
structure MsgM where
  ki : Nat
  fr : Nat
  tt : Nat
  ke : Nat
  co : Nat
  bc : Nat
  bn : Nat
  bl : Nat
  ok : Bool
  ac : Nat
  an : Nat
  al : Nat
  r : RegM
  nc : Nat
  nn : Nat
  nl : Nat
  mx : Nat
/-- a message -/
structure MsgP where
  ki : Nat
  fr : Nat
  tt : Nat
  ke : Nat
  co : Nat
  bc : Nat
  bn : Nat
  bl : Nat
  ok : Bool
  ac : Nat
  an : Nat
  al : Nat
  r : RegP
  nc : Nat
  nn : Nat
  nl : Nat
  mx : Nat
deriving DecidableEq
def MsgM.p (m : MsgM) : MsgP := ⟨m.ki, m.fr, m.tt, m.ke, m.co, m.bc, m.bn, m.bl, m.ok, m.ac, m.an, m.al, m.r.p, m.nc, m.nn, m.nl, m.mx⟩
def MsgM.box (m : MsgM) : Array Value := #[.int .u8 m.ki, .int .u8 m.fr, .int .u8 m.tt, .int .u8 m.ke, .int .u64 m.co, .int .u64 m.bc, .int .u8 m.bn, .int .u32 m.bl, .bool m.ok, .int .u64 m.ac, .int .u8 m.an, .int .u32 m.al,
  .int .u8 m.r.ki, .int .u64 m.r.inc, .int .i64 m.r.st, .slice m.r.va.A m.r.va.l.length m.r.va.c, .slice m.r.dn.A m.r.dn.l.length m.r.dn.c, .slice m.r.ou.A m.r.ou.l.length m.r.ou.c, .int .u64 m.r.la, .slice m.r.ma.A m.r.ma.l.length m.r.ma.c,
  .int .u64 m.nc, .int .u8 m.nn, .int .u32 m.nl, .int .u64 m.mx]
def MsgM.v (m : MsgM) : Value := .agg m.box
def N64 (n : Nat) : Prop := n < 18446744073709551616
def BalIn (c n l : Nat) : Prop := N64 c ∧ n ≤ 255 ∧ l ≤ 4294967295
def MsgM.ok' (m : MsgM) : Prop := (m.ki ≤ 255 ∧ m.fr ≤ 255 ∧ m.tt ≤ 255 ∧ m.ke ≤ 255) ∧ (N64 m.co ∧ N64 m.mx) ∧ BalIn m.bc m.bn m.bl ∧ BalIn m.ac m.an m.al ∧ BalIn m.nc m.nn m.nl
def MsgM.good (w : World) (B : Nat) (m : MsgM) : Prop := m.ok' ∧ RegM.ok w B m.r
theorem msg_stable : Stable MsgM.good := fun w w' B B' x h hk hB => ⟨h.1, reg_stable w w' B B' x.r h.2 hk hB⟩
theorem msg_local : Local MsgM.good (fun m => RegM.ft m.r) := fun w w' B B' x h hk hB => ⟨h.1, reg_local w w' B B' x.r h.2 hk hB⟩
def zeroMsg : MsgM := ⟨0, 0, 0, 0, 0, 0, 0, 0, false, 0, 0, 0, zeroM, 0, 0, 0, 0⟩
theorem zeroMsg_good (w : World) (B : Nat) : MsgM.good w B zeroMsg := ⟨by simp [MsgM.ok', BalIn, N64, zeroMsg], zeroM_ok w B⟩

def noneB (c n l : Nat) : Bool := decide (c = 0) && (decide (n = 0) && decide (l = 0))
theorem noneB_true {c n l : Nat} : noneB c n l = true ↔ c = 0 ∧ n = 0 ∧ l = 0 := by simp [noneB]
def hasB (p : MsgP) : Bool := noneB p.ac p.an p.al && decide (p.r = zeroP)
def promB (p : MsgP) : Bool := if p.ok then (decide (p.r.ki = 0) || !noneB p.ac p.an p.al) && (mayG p.r && decide (p.mx = 0)) else hasB p
def nextB (p : MsgP) : Bool := noneB p.nc p.nn p.nl || (decide (p.nn = p.bn) && (decide (p.nl = p.bl) && decide (p.bc < p.nc)))
def tellB (p : MsgP) : Bool :=
  if p.ki = 1 then !p.ok && (hasB p && (noneB p.nc p.nn p.nl && decide (p.mx = 0)))
  else if p.ki = 2 then promB p && noneB p.nc p.nn p.nl
  else if p.ki = 3 then !p.ok && (noneB p.ac p.an p.al && (mayG p.r && (nextB p && decide (p.mx = 0))))
  else if p.ki = 4 then hasB p && (noneB p.nc p.nn p.nl && (!p.ok || decide (p.mx = 0)))
  else false
def mayM (p : MsgP) : Bool := decide (p.fr < 64) && (decide (p.tt < 64) && (decide (p.ke < 16) && (!noneB p.bc p.bn p.bl && tellB p)))

theorem None_any (c n l : Nat) (w : World) : Calls Tryz.prog 201 #[.agg #[.int .u64 c, .int .u8 n, .int .u32 l]] w fun e w' => e = .returned (.bool (noneB c n l)) ∧ Below w.heap.size w w' := by
  by_cases h : c = 0 ∧ n = 0 ∧ l = 0
  · obtain ⟨rfl, rfl, rfl⟩ := h
    exact None_yes w
  · rw [show noneB c n l = false from by rw [← Bool.not_eq_true, noneB_true]; exact h]
    exact None_no c n l h w




theorem cmp_count {c c' n l : Nat} : decide ((0 : Int) < cmpB c n l c' n l) = decide (c' < c) := by
  rw [cmpB_less]
  by_cases h : c = c'
  · subst h
    simp [lessB]
  · by_cases h2 : c < c'
    · have : ¬ c' < c := by omega
      simp [lessB, h, h2, this]
    · have h3 : c' < c := by omega
      simp [lessB, h, h2, h3, Ne.symm h]




end Go.Proofs.YtnkjdijbfnmnhaaGreat
/-
  How numbers and ballots come in.
-/
namespace Go.Proofs.YtnkjdijbfnmnhaaGreat
open Go.ChangeShapes Go.WideShapes Go.ChangeAt Go.RowKit Go.Joins Go.Deep

section
variable {H : Type} {enc : TypeId × Value → H} {w : World} {base : Nat} {spare : Nat → Bool} {held : Bool}

theorem nat_u64 {x : Int} (h : U64 x) : ∃ n : Nat, x = n ∧ N64 n := by
  obtain ⟨n, rfl⟩ := Int.eq_ofNat_of_zero_le h.1
  exact ⟨n, rfl, by have := h.2; unfold N64; omega⟩
theorem nat_u8 {x : Int} (h : 0 ≤ x ∧ x ≤ 255) : ∃ n : Nat, x = n ∧ n ≤ 255 := by
  obtain ⟨n, rfl⟩ := Int.eq_ofNat_of_zero_le h.1
  exact ⟨n, rfl, by omega⟩
theorem open_u32n {n : Nat} {t : TypeId} {v : Value} {y : DataW H × List MemPlace} (ht : Tryz.prog.underlying t = some (.int .u32)) (h : DataW.trod enc Tryz.prog w base spare held n t [v] = some y) : ∃ x : Nat, v = .int .u32 x ∧ x ≤ 4294967295 := by
  obtain ⟨a, rfl, wa⟩ := open_numI ht h
  have h2 : 0 ≤ a ∧ a ≤ 4294967295 := by simpa [Lit.wf, IntKind.min, IntKind.max, IntKind.signed, IntKind.bits] using wa
  obtain ⟨m, rfl⟩ := Int.eq_ofNat_of_zero_le h2.1
  exact ⟨m, rfl, by omega⟩
theorem open_u64n {n : Nat} {t : TypeId} {v : Value} {y : DataW H × List MemPlace} (ht : Tryz.prog.underlying t = some (.int .u64)) (h : DataW.trod enc Tryz.prog w base spare held n t [v] = some y) : ∃ x : Nat, v = .int .u64 x ∧ N64 x := by
  obtain ⟨a, rfl, wa⟩ := open_u64c ht h
  obtain ⟨m, rfl, hm⟩ := nat_u64 wa
  exact ⟨m, rfl, hm⟩
theorem open_u8n {n : Nat} {t : TypeId} {v : Value} {y : DataW H × List MemPlace} (ht : Tryz.prog.underlying t = some (.int .u8)) (h : DataW.trod enc Tryz.prog w base spare held n t [v] = some y) : ∃ x : Nat, v = .int .u8 x ∧ x ≤ 255 := by
  obtain ⟨a, rfl, wa⟩ := open_u8c ht h
  obtain ⟨m, rfl, hm⟩ := nat_u8 wa
  exact ⟨m, rfl, hm⟩

set_option maxRecDepth 100000 in
theorem el_bal {n : Nat} {xs : List Value} {y : DataW H × List MemPlace} (hl : xs.length = 3) (h : DataW.trod enc Tryz.prog w base spare held n 49 xs = some y) : ∃ a b c : Nat, xs = [.int .u64 a, .int .u8 b, .int .u32 c] ∧ BalIn a b c := by
  match xs, hl with
  | [c0, c1, c2], _ =>
    obtain ⟨_, _, h0⟩ := field_at Tryz.underlying49 h 0 rfl rfl rfl (by kernel_rfl) rfl
    obtain ⟨_, _, h1⟩ := field_at Tryz.underlying49 h 1 rfl rfl rfl (by kernel_rfl) rfl
    obtain ⟨_, _, h2⟩ := field_at Tryz.underlying49 h 2 rfl rfl rfl (by kernel_rfl) rfl
    obtain ⟨a, rfl, ha⟩ := open_u64n Tryz.underlying25 h0
    obtain ⟨b, rfl, hb⟩ := open_u8n Tryz.underlying5 h1
    obtain ⟨c, rfl, hc⟩ := open_u32n Tryz.underlying47 h2
    exact ⟨a, b, c, rfl, ha, hb, hc⟩
end
end Go.Proofs.YtnkjdijbfnmnhaaGreat

/-
  The document's Put of ballots.
-/
namespace Go.Proofs.YtnkjdijbfnmnhaaGreat
open Go.RowKit

set_option maxRecDepth 100000 in
set_option maxHeartbeats 3200000 in
set_option linter.unusedSimpArgs false in
theorem refBalPut_any (c n l : Nat) (r : List UInt8) (w : World) (hres : balB c n l = r) (hc : N64 c) (hn : n ≤ 255) (hl : l ≤ 4294967295) :
    Calls Tryz.prog 54 #[.agg #[.int .u64 c, .int .u8 n, .int .u32 l]] w (Puts w r) := by
  obtain ⟨p, hp⟩ : ∃ x, numB c ++ numB n = x := ⟨_, rfl⟩
  have hr : p ++ numB l = r := by rw [← hp, ← hres, balB]; simp
  have n1 := numB_length c hc
  have n2 := numB_length n (by omega)
  have n3 := numB_length l (by omega)
  have hpl : p.length ≤ 20 := by rw [← hp, List.length_append]; omega
  have HPL := hide_ hpl
  have HP := hide_ hp
  have HR := hide_ hr
  have HC := hide_ hc
  have HNL := hide_ (show (numB c).length ≤ 10 ∧ (numB n).length ≤ 10 ∧ (numB l).length ≤ 10 from ⟨n1, n2, n3⟩)
  have HX := hide_ (BoxAt.new w #[.int .u64 c, .int .u8 n, .int .u32 l] 49)
  have HW := hide_ (show Below w.heap.size w (w.alloc (.cells #[.int .u64 c, .int .u8 n, .int .u32 l] 49)) from (Below.refl _ _).alloc (Nat.le_refl _) _)
  clear hp hr hres hc n1 n2 n3 hpl
  go_enter Tryz.func54, Tryz.ntmps54
  go_upto_region 1 with fail
  generalize hW1 : w.alloc (.cells #[.int .u64 c, .int .u8 n, .int .u32 l] 49) = W1
  rw [hW1] at HX HW
  have HSZ := hide_ (show W1.heap.size = w.heap.size + 1 from by rw [← hW1]; simp)
  clear hW1
  have HSS := hide_ (fun (u : World) (h : Below W1.heap.size W1 u) => (show ∀ i : Nat, u.cell? ⟨w.heap.size, i, none⟩ = (#[.int .u64 c, .int .u8 n, .int .u32 l] : Array Value)[i]? from (HX.out.below h).cell))
  have HD := hide_ (show Below W1.heap.size W1 W1.drew from (Below.refl _ _).drew)
  refine wp_region_held_drew (S := fun u => ∀ i : Nat, u.cell? ⟨w.heap.size, i, none⟩ = (#[.int .u64 c, .int .u8 n, .int .u32 l] : Array Value)[i]?) (by kernel_rfl) (HSS.out _ HD.out) (fun hHeld => ?_)
  refine wpAnyH_take (i := 0) (oi := ⟨some 4, _, _, _, _, _⟩) (v := ?v1) rfl (by kernel_rfl) (by kernel_rfl) (by kernel_rfl) (fun _ _ _ h => h) (Or.inl ⟨by rfl, ?hy1⟩) (by assumption) ?rest1
  case hy1 => intro w hSw; (try dsimp only at hSw); go_simp <;> with_reducible rfl
  simp only [Act.put, List.setIfInBounds_toArray, List.set_cons_zero, List.set_cons_succ]
  refine wpAnyH_take (i := 1) (oi := ⟨some 5, _, _, _, _, _⟩) (v := ?v2) rfl (by kernel_rfl) (by kernel_rfl) (by kernel_rfl) (fun _ _ _ h => h) (Or.inl ⟨by rfl, ?hy2⟩) (by assumption) ?rest2
  case hy2 => intro w hSw; (try dsimp only at hSw); go_simp <;> with_reducible rfl
  simp only [Act.put, List.setIfInBounds_toArray, List.set_cons_zero, List.set_cons_succ]
  refine wpAnyH_take (i := 3) (oi := ⟨some 7, _, _, _, _, _⟩) (v := ?v3) rfl (by kernel_rfl) (by kernel_rfl) (by kernel_rfl) (fun _ _ _ h => h) (Or.inl ⟨by rfl, ?hy3⟩) (by assumption) ?rest3
  case hy3 => intro w hSw; (try dsimp only at hSw); go_simp <;> with_reducible rfl
  simp only [Act.put, List.setIfInBounds_toArray, List.set_cons_zero, List.set_cons_succ]
  refine wpAnyH_take (i := 4) (oi := ⟨some 8, _, _, _, _, _⟩) (v := ?v4) rfl (by kernel_rfl) (by kernel_rfl) (by kernel_rfl) (fun _ _ _ h => h) (Or.inl ⟨by rfl, ?hy4⟩) (by assumption) ?rest4
  case hy4 => intro w hSw; (try dsimp only at hSw); go_simp <;> with_reducible rfl
  simp only [Act.put, List.setIfInBounds_toArray, List.set_cons_zero, List.set_cons_succ]
  have hwr : IntKind.u64.wrap (n : Int) = n := IntWalk.u64_in _ (by omega)
  refine wpAnyH_take (i := 5) (oi := ⟨some 9, _, _, _, _, _⟩) (v := .int .u64 n) rfl (by kernel_rfl) (by kernel_rfl) (by kernel_rfl) (fun _ _ _ h => h) (Or.inl ⟨by rfl, ?hy5⟩) (by assumption) ?rest5
  case hy5 => intro w hSw; (try dsimp only at hSw); go_simp <;> first | (with_reducible rfl) | exact hwr
  simp only [Act.put, List.setIfInBounds_toArray, List.set_cons_zero, List.set_cons_succ]
  refine wpAnyH_ready (rs := [2]) (by kernel_rfl) (by simp) ?_
  refine AllReadyH.cons rfl (fun K hK => ?_) AllReadyH.nil
  go_simp
  go_wp2_with fail
  refine (refNum_any c (numB c) W1.drew rfl HC.out).mono ?_
  rintro en u1 ⟨A1, c1, rfl, ho1, hb1⟩
  have HU1 := hide_ (HD.out.trans hb1)
  have HO1 := hide_ ho1
  clear ho1 hb1
  refine hK.out _ _ (HSS.out _ HU1.out) (fun hHeld => ?_)
  clear hK K
  refine wpAnyH_ready (rs := [6]) (by kernel_rfl) (by simp) ?_
  refine AllReadyH.cons rfl (fun K hK => ?_) AllReadyH.nil
  go_simp
  go_wp2_with fail
  refine (refNum_any n (numB n) u1 rfl (by omega)).mono ?_
  rintro en u2 ⟨A2, c2, rfl, ho2, hb2⟩
  have HU2 := hide_ (HU1.out.trans (hb2.mono HU1.out.size))
  have HO2 := hide_ ho2
  have HO12 := hide_ (own_below HO1.out hb2)
  have HB2 := hide_ hb2.size
  clear ho2 hb2
  refine hK.out _ _ (HSS.out _ HU2.out) (fun hHeld => ?_)
  clear hK K
  refine wpAnyH_ready (rs := [7]) (by kernel_rfl) (by simp) ?_
  refine AllReadyH.cons rfl (fun K hK => ?_) AllReadyH.nil
  refine step_append_row _ (by rfl) _ _ 50 (by rfl) W1.heap.size u8_info Tryz.underlying50 _ (numB c) (numB n) p HP.out (by rfl) HO12.out u2.heap.size A2 _ c2 (by rfl) rfl (Sees.own HO2.out) ⟨by have := HNL.out; omega, by have := HNL.out; omega⟩ HU2.out.size ?_
  intro A3 c3 u3 hst
  have HU3 := hide_ (HU2.out.trans (hst.below HO12.out (B := W1.heap.size) (Nat.le_refl _) HU2.out.size))
  have HO3 := hide_ hst.own
  clear hst
  refine hK.out _ _ (HSS.out _ HU3.out) (fun hHeld => ?_)
  clear hK K
  simp only [Act.put, List.setIfInBounds_toArray, List.set_cons_zero, List.set_cons_succ]
  refine wpAnyH_take (i := 8) (oi := ⟨some 3, _, _, _, _, _⟩) (v := ?v6) rfl (by kernel_rfl) (by kernel_rfl) (by kernel_rfl) (fun _ _ _ h => h) (Or.inl ⟨by rfl, ?hy6⟩) (by assumption) ?rest6
  case hy6 => intro w hSw; (try dsimp only at hSw); go_simp <;> with_reducible rfl
  simp only [Act.put, List.setIfInBounds_toArray, List.set_cons_zero, List.set_cons_succ]
  refine wpAnyH_done (by kernel_rfl) ?_ _
  have hcx := HSS.out _ HU3.out
  have hl64 : IntKind.u64.wrap (l : Int) = l := IntWalk.u64_in _ (by omega)
  clear hwr
  go_wp2_with fail
  refine (refNum_any l (numB l) u3 rfl (by omega)).mono ?_
  rintro en u4 ⟨A4, c4, rfl, ho4, hb4⟩
  have HO4 := hide_ ho4
  have HO34 := hide_ (own_below HO3.out hb4)
  have HU4 := hide_ (HU3.out.trans (hb4.mono HU3.out.size))
  have HZ := hide_ (show W1.heap.size ≤ u4.heap.size from HU4.out.size)
  clear ho4 hb4 hcx
  go_wp2_with (at_builtin; refine wpList_append_bytes (P := Tryz.prog) _ rfl (.tmp 12) (.tmp 16) 50 rfl W1.heap.size 5 u8_info Tryz.underlying50 _ p.length p (numB l) r HR.out rfl HO34.out u4.heap.size A4 _ c4 rfl rfl (Sees.own HO4.out) (by have := HNL.out; have := HPL.out; omega) HZ.out ?_; intro A5 c5 u5 hown5 hb5)
  go_ret
  exact ⟨A5, c5, rfl, own_mono hown5 (by have := HSZ.out; omega), HW.out.trans ((HU4.out.trans hb5).mono (by have := HSZ.out; omega))⟩
end Go.Proofs.YtnkjdijbfnmnhaaGreat
