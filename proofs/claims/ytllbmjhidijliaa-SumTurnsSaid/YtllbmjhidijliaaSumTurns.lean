/-
  scrutineerlaw02.SumTurns answers true for every input and leaves its input as it was; no condition.
-/
import Derived.Test.YtllbmjhidijliaaMark
import Derived.Test.YtllbmjhidijliaaLaw
import Derived.Deep.RegionHeldLaw
namespace Go.Proofs.Ytllbmjhidijliaa.sumTurns
open Go.ChangeShapes Go.WideShapes Go.ChangeAt Go.RowKit

/-- three texts put together bit by bit, the first k bytes -/
def x3 (a b c : List UInt8) (k : Nat) : List UInt8 := (List.range k).map fun i => a.getD i 0 ^^^ b.getD i 0 ^^^ c.getD i 0
theorem x3_length (a b c : List UInt8) (k : Nat) : (x3 a b c k).length = k := by simp [x3]
theorem x3_succ (a b c : List UInt8) (k : Nat) : x3 a b c (k + 1) = x3 a b c k ++ [a.getD k 0 ^^^ b.getD k 0 ^^^ c.getD k 0] := by simp [x3, List.range_succ]
theorem xor_mid (a b c d e f : Nat) : (a ^^^ b ^^^ c) ^^^ (d ^^^ e ^^^ f) = (a ^^^ d) ^^^ (b ^^^ e) ^^^ (c ^^^ f) := by ac_rfl
theorem crcB_x3 (r s t : Nat) (x y z : UInt8) : crcB (r ^^^ s ^^^ t) (x ^^^ y ^^^ z) = crcB r x ^^^ crcB s y ^^^ crcB t z := by
  unfold crcB
  rw [UInt8.toNat_xor, UInt8.toNat_xor, xor_mid, bitsN_xor, bitsN_xor]
theorem take_snoc' (l : List UInt8) (k : Nat) (h : k < l.length) : l.take (k + 1) = l.take k ++ [l.getD k 0] := by
  rw [take_snoc l k h, List.getD_eq_getElem?_getD, List.getElem?_eq_getElem h]
  rfl
theorem crcR_x3 (a b c : List UInt8) (r s t : Nat) : ∀ k, k ≤ a.length → k ≤ b.length → k ≤ c.length → crcR (r ^^^ s ^^^ t) (x3 a b c k) = crcR r (a.take k) ^^^ crcR s (b.take k) ^^^ crcR t (c.take k) := by
  intro k
  induction k with
  | zero => intro _ _ _; rfl
  | succ k ih =>
    intro h1 h2 h3
    rw [x3_succ, crcR_snoc, ih (by omega) (by omega) (by omega), take_snoc' a k (by omega), take_snoc' b k (by omega), take_snoc' c k (by omega), crcR_snoc, crcR_snoc, crcR_snoc, crcB_x3]
theorem crc_x3 (a b c : List UInt8) (k : Nat) (h1 : k ≤ a.length) (h2 : k ≤ b.length) (h3 : k ≤ c.length) : crc (x3 a b c k) = crc (a.take k) ^^^ crc (b.take k) ^^^ crc (c.take k) := by
  have h := crcR_x3 a b c 4294967295 4294967295 4294967295 k h1 h2 h3
  have lt := fun l => crcR_lt l 4294967295 (by omega)
  unfold crc
  rw [← turn_eq (lt _), ← turn_eq (lt _), ← turn_eq (lt _), ← turn_eq (lt _), ← xor_mid, ← h]
  rfl

theorem run_min3 {P : Program} (ts : Array TypeId) (t : TypeId) (a b c k : Nat) (hk : min (min a b) c = k) (w : World) :
    (Builtin.min_ ts t #[.int .i64 (a : Int), .int .i64 (b : Int), .int .i64 (c : Int)]).run P w = .ok (.int .i64 (k : Int)) w := by
  have e : ∀ x y : Nat, (if (y : Int) < x then (y : Int) else x) = ((min x y : Nat) : Int) := fun x y => by split <;> omega
  have h2 : ∀ (x y : Nat), Builtin.min2 (.int .i64 (x : Int)) (.int .i64 (y : Int)) = (pure (.int .i64 ((min x y : Nat) : Int)) : Sem Value) := fun x y => by
    show (pure (.int .i64 (if (y : Int) < x then (y : Int) else x)) : Sem Value) = _
    rw [e]
  subst hk
  show ((Builtin.min2 (.int .i64 (a : Int)) (.int .i64 (b : Int))).bind fun x => (Builtin.min2 x (.int .i64 (c : Int))).bind fun x => pure x).run P w = _
  rw [h2]
  show ((Builtin.min2 (.int .i64 ((min a b : Nat) : Int)) (.int .i64 (c : Int))).bind fun x => pure x).run P w = _
  rw [h2]
  rfl

theorem walk_long (A A2 A3 : Option Addr) (n n2 n3 c c2 c3 k : Nat) (w : World) (hk : min (min n n2) n3 = k) (h : 2000 < k) (hm : n ≤ maxLen) :
    Calls Try.prog 6 #[.slice A n c, .slice A2 n2 c2, .slice A3 n3 c3] w fun e w' => e = .returned (.bool true) ∧ Below w.heap.size w w' := by
  unfold maxLen at hm
  have hmin := fun u : World => run_min3 (P := Try.prog) #[3, 3, 3] 3 n n2 n3 k hk u
  have hkm : k ≤ 9223372036854775807 := by omega
  clear hk
  go_enter Try.func6, Try.ntmps6
  go_wp2_with fail
  refine (awake_any _).mono ?_
  rintro e w1 ⟨rfl, hb1⟩
  go_wp2
  go_ret
  exact ⟨rfl, hb1⟩

theorem xor8_nat (x y z : UInt8) : bits .xor .u8 (bits .xor .u8 (x.toNat : Int) (y.toNat : Int)) (z.toNat : Int) = ((x ^^^ y ^^^ z).toNat : Int) := by
  rw [u8_xor_nat _ _ x.toNat_lt y.toNat_lt, u8_xor_nat _ _ (xor_lt8 x.toNat_lt y.toNat_lt) z.toNat_lt, UInt8.toNat_xor, UInt8.toNat_xor]

set_option maxHeartbeats 1000000 in
theorem walk_short (la lb lc : List UInt8) (A A2 A3 : Option Addr) (n n2 n3 c c2 c3 k : Nat) (w : World) (hk : min (min n n2) n3 = k) (h : k ≤ 2000) (hna : la.length = n) (hnb : lb.length = n2) (hnc : lc.length = n3)
    (hca : n ≤ c) (hcb : n2 ≤ c2) (hcc : n3 ≤ c3) (hm : n ≤ maxLen) (hsa : Sees w w.heap.size A (bv la)) (hsb : Sees w w.heap.size A2 (bv lb)) (hsc : Sees w w.heap.size A3 (bv lc)) :
    Calls Try.prog 6 #[.slice A n c, .slice A2 n2 c2, .slice A3 n3 c3] w fun e w' => e = .returned (.bool true) ∧ Below w.heap.size w w' := by
  unfold maxLen at hm
  have hmin := fun u : World => run_min3 (P := Try.prog) #[3, 3, 3] 3 n n2 n3 k hk u
  have ka : k ≤ n := by omega
  have kb : k ≤ n2 := by omega
  have kc : k ≤ n3 := by omega
  have HA := hide_ hna
  have HB := hide_ hnb
  have HC := hide_ hnc
  clear hk hna hnb hnc
  go_enter Try.func6, Try.ntmps6
  go_wp2
  go_loopw [8, 9] (fun v i wr => ∃ j : Nat, j ≤ k ∧ i = .int .i64 j ∧ wr.ownsRow w.heap.size 5 1 v j (bv (x3 la lb lc j)) ∧ Below w.heap.size w wr) (fun _ i _ => k - (intOf i).toNat)
  case atStart => exact ⟨0, by omega, rfl, World.ownsRow_lit w #[] 0 (Nat.le_refl _) (by simp [maxLen]) rfl, (Below.refl _ _).alloc (Nat.le_refl _) _⟩
  case round =>
    obtain ⟨j, hj, rfl, hown, hb⟩ := hrel
    by_cases hlt : j < k
    · obtain ⟨ada, rfl, hba, hcella⟩ := hsa.byte (j := j) (by rw [HA.out]; omega)
      obtain ⟨adb, rfl, hbb, hcellb⟩ := hsb.byte (j := j) (by rw [HB.out]; omega)
      obtain ⟨adc, rfl, hbc, hcellc⟩ := hsc.byte (j := j) (by rw [HC.out]; omega)
      have i0 : (0 : Int) ≤ (j : Int) := by omega
      have i1 : (j : Int) < (n : Int) := by omega
      have i2 : (j : Int) < (n2 : Int) := by omega
      have i3 : (j : Int) < (n3 : Int) := by omega
      have cf : ∀ u, Below w.heap.size w u → u.cell? (ada.add j) = some (.int .u8 ((la.getD j 0).toNat : Int)) ∧ u.cell? (adb.add j) = some (.int .u8 ((lb.getD j 0).toNat : Int)) ∧ u.cell? (adc.add j) = some (.int .u8 ((lc.getD j 0).toNat : Int)) := fun u hu =>
        ⟨(hu.cell (by rw [add_block]; exact hba)).trans hcella, (hu.cell (by rw [add_block]; exact hbb)).trans hcellb, (hu.cell (by rw [add_block]; exact hbc)).trans hcellc⟩
      have CF := hide_ cf
      have e1 := x3_succ la lb lc j
      have hx := xor8_nat (la.getD j 0) (lb.getD j 0) (lc.getD j 0)
      generalize la.getD j 0 = xa at hx CF e1
      generalize lb.getD j 0 = xb at hx CF e1
      generalize lc.getD j 0 = xc at hx CF e1
      have E1 := hide_ e1
      clear hcella hcellb hcellc cf e1
      go_wp2
      go_region_held_law (fun u => u.cell? (ada.add j) = some (.int .u8 (xa.toNat : Int)) ∧ u.cell? (adb.add j) = some (.int .u8 (xb.toNat : Int)) ∧ u.cell? (adc.add j) = some (.int .u8 (xc.toNat : Int)))
        (first | exact CF.out _ hb.drew | exact CF.out _ (hb.alloc hb.size _).drew | exact CF.out _ hb9)
        (first | (refine step_append_byte (P := Try.prog) wr rfl (.tmp 26) (.tmp 41) 22 rfl w.heap.size 5 u8_info Try.underlying22 _ j _ ((xa ^^^ xb ^^^ xc).toNat : Int) (by rfl) hown (by rfl) (by omega) hb.size ?_; intro v9 w9 hown9 hb9'; (have hb9 := hb.trans hb9')))
      go_wp2
      go_roundw
      case rel => exact ⟨j + 1, by omega, by go_num, by rw [E1.out, bv_append]; exact hown9, hb9⟩
      case measure => simp [intOf]; omega
    · obtain rfl : j = k := by omega
      obtain ⟨Ax, cx, rfl⟩ := own_slice hown
      have hsx := Sees.own hown
      have hz := hb.size
      have LA : (la.take j).length = j := by rw [List.length_take, HA.out]; omega
      have LB : (lb.take j).length = j := by rw [List.length_take, HB.out]; omega
      have LC : (lc.take j).length = j := by rw [List.length_take, HC.out]; omega
      have KA := hide_ LA
      have KB := hide_ LB
      have KC := hide_ LC
      have hcr := crc_x3 la lb lc j (by rw [HA.out]; omega) (by rw [HB.out]; omega) (by rw [HC.out]; omega)
      have HCR := hide_ hcr
      have LX := hide_ (x3_length la lb lc j)
      clear LA LB LC hcr
      have hjm : j ≤ maxLen := by unfold maxLen; omega
      have i0 : (0 : Int) ≤ (j : Int) := by omega
      have i1 : (j : Int) ≤ (c : Int) := by omega
      have i2 : (j : Int) ≤ (c2 : Int) := by omega
      have i3 : (j : Int) ≤ (c3 : Int) := by omega
      go_wp2
      have hsxd : Sees wr.drew wr.heap.size Ax (bv (x3 la lb lc j)) := hsx
      have hzd : wr.heap.size ≤ wr.drew.heap.size := Nat.le_refl _
      have hta := fun {u : World} (hu : Below w.heap.size w u) => (Sees.take hsa j).below hu
      have htb := fun {u : World} (hu : Below w.heap.size w u) => (Sees.take hsb j).below hu
      have htc := fun {u : World} (hu : Below w.heap.size w u) => (Sees.take hsc j).below hu
      simp only [← bv_take] at hta htb htc
      go_region_held (fun _ => True) (trivial)
        (first | (go_at_call 8; ((with_reducible refine (Of_any (x3 la lb lc j) wr.heap.size Ax j cx wr.drew LX.out hjm hsxd hzd).mono ?_); rintro e w1 ⟨rfl, hb1'⟩; (have hb1 := hb.trans ((Below.of_drew hb1').mono hz)))) | (go_at_call 8; ((with_reducible refine (Of_any (la.take j) w.heap.size A j c w1 KA.out hjm (hta hb1) hb1.size).mono ?_); rintro e w2 ⟨rfl, hb2'⟩; (have hb2 := hb1.trans (hb2'.mono hb1.size)))) | (go_at_call 8; ((with_reducible refine (Of_any (lb.take j) w.heap.size A2 j c2 w2 KB.out hjm (htb hb2) hb2.size).mono ?_); rintro e w3 ⟨rfl, hb3'⟩; (have hb3 := hb2.trans (hb3'.mono hb2.size)))) | (go_at_call 8; ((with_reducible refine (Of_any (lc.take j) w.heap.size A3 j c3 w3 KC.out hjm (htc hb3) hb3.size).mono ?_); rintro e w4 ⟨rfl, hb4'⟩; (have hb4 := hb3.trans (hb4'.mono hb3.size)); (have hx1 := u32_xor_nat _ _ (crc_lt (la.take j)) (crc_lt (lb.take j))); (have hx2 := u32_xor_nat _ _ (xor_lt (crc_lt (la.take j)) (crc_lt (lb.take j))) (crc_lt (lc.take j))); (have hx3 := HCR.out))) | (go_at_call 7; refine (awake_any _).mono ?_; rintro e w5 ⟨rfl, hb5'⟩; (have hb5 := hb4.trans (hb5'.mono hb4.size))))
      go_wp2
      go_ret
      exact ⟨rfl, hb5⟩

theorem own : ownKnob Try.prog.godebug = none := by kernel_rfl
theorem laid : laidOutB Try.prog = true := by kernel_rfl
theorem cells8 : Try.prog.cellsOf 5 = 1 := by kernel_rfl

theorem contract (H : Type) (enc : TypeId × Value → H) (W : World) (base : Nat) (args : Array Value) (ds gs : List (DataW H)) (before : List MemPlace)
    (hval : ∀ (j : Nat) t v, Try.f6.params[j]? = some t → args[j]? = some v → Value.okWide Try.prog W .any base t v)
    (hW : DataW.Whole enc Try.prog Try.f6.params.toList Rows.sumTurnsSpec.vars false W args.toList ds gs before) :
    Calls Try.prog 6 args W fun e W' => ∃ v, e = .returned v ∧ Rows.sumTurnsSpec.post enc Try.prog Try.f6 false true false false W args v W' := by
  have hW' := hW
  obtain ⟨p, q, hA0, hV, rfl, hfz, hnd⟩ := hW
  have hA : DataW.TrodAll enc Try.prog W 0 (fun _ => true) true Try.f6.params.toList args.toList ds p := hA0
  rw [Try.params6] at hA hval
  obtain ⟨v0, vs0, d0, ds0, p0, q0, hargs, rfl, rfl, h0, r0⟩ := trodAll_cons hA
  obtain ⟨v1, vs1, d1, ds1, p1, q1, rfl, rfl, rfl, h1, r1⟩ := trodAll_cons r0
  obtain ⟨v2, vs2, d2, ds2, p2, q2, rfl, rfl, rfl, h2, r2⟩ := trodAll_cons r1
  obtain ⟨rfl, rfl, rfl⟩ := trodAll_nil r2
  obtain rfl : args = #[v0, v1, v2] := by cases args; simp_all
  obtain ⟨rfl, rfl⟩ := trodVars_none hV
  obtain ⟨A0, n0, c0, l0, rfl, e0, m0, M0, s0⟩ := open_bytes Try.underlying22 Try.underlying5 cells8 (hval 0 22 v0 rfl rfl) h0
  obtain ⟨A1, n1, c1, l1, rfl, e1, m1, M1, s1⟩ := open_bytes Try.underlying22 Try.underlying5 cells8 (hval 1 22 v1 rfl rfl) h1
  obtain ⟨A2, n2, c2, l2, rfl, e2, m2, M2, s2⟩ := open_bytes Try.underlying22 Try.underlying5 cells8 (hval 2 22 v2 rfl rfl) h2
  have fin : ∀ (e : Ending) (W' : World), e = .returned (.bool true) ∧ Below W.heap.size W W' → ∃ v, e = .returned v ∧ Rows.sumTurnsSpec.post enc Try.prog Try.f6 false true false false W #[.slice A0 n0 c0, .slice A1 n1 c1, .slice A2 n2 c2] v W' :=
    fun e W' ⟨he, hb⟩ => ⟨_, he, law_post laid (by kernel_rfl) rfl rfl rfl Try.underlying4 hW' hb⟩
  have mm : ∃ k, min (min n0 n1) n2 = k := ⟨_, rfl⟩
  obtain ⟨k, hk⟩ := mm
  by_cases hlong : 2000 < k
  · exact (walk_long A0 A1 A2 n0 n1 n2 c0 c1 c2 k W hk hlong (Nat.le_trans m0 M0)).mono fin
  · exact (walk_short l0 l1 l2 A0 A1 A2 n0 n1 n2 c0 c1 c2 k W hk (by omega) e0 e1 e2 m0 m1 m2 (Nat.le_trans m0 M0) s0 s1 s2).mono fin

set_option maxRecDepth 100000 in
theorem lifted (os : Os) (started : os.Started) (H : Type) (enc : TypeId × Value → H) :
    ReturnsInHanded {} Try.checked os 6 .any (Rows.sumTurnsSpec.pre6 enc Try.prog Try.f6 Rows.sumTurnsRow.domain false) (Rows.sumTurnsSpec.post enc Try.prog Try.f6 false true false false) := by
  refine returnsInHanded_of_change (C := Try.checked) (s := Rows.sumTurnsSpec) own started (by kernel_rfl) Try.func6
    (ChangeSpec.witness6 (enc := enc) (C := Try.checked) false ⟨#[], #[.slice none 0 0, .slice none 0 0, .slice none 0 0], []⟩ 8 (by kernel_rfl) (by kernel_rfl) (by kernel_rfl) (by kernel_rfl)) ?_
  intro W base args ds gs before hval hW _ _
  exact contract H enc W base args ds gs before hval hW

theorem proved : Rows.SumTurnsSaid :=
  OpenClaim.holds_of_wide 6 Try.f6 rfl rfl rfl rfl rfl rfl rfl ⟨rfl, rfl, rfl, rfl, rfl⟩ rfl rfl rfl rfl rfl (by kernel_rfl) Try.func6 (by kernel_rfl)
    (of_decide_eq_true (by kernel_rfl)) (by unfold Func.isWrapper; first | (rw [if_pos (by decide +kernel)]; kernel_rfl) | (rw [if_neg (by decide +kernel)]; exact ⟨rfl, rfl⟩))
    (fun os started H enc _ => lifted os started H enc)
end Go.Proofs.Ytllbmjhidijliaa.sumTurns
