/-
  scrutineerlaw12.SectorAll answers true for every input and leaves its input as it was; no condition.
-/
import Derived.Test.YtimgmpmibempaaaPair12
namespace Go.Proofs.Ytimgmpmibempaaa.sectorAll
open Go.ChangeShapes Go.WideShapes Go.ChangeAt Go.RowKit

theorem walk_long (n c : Int) (s : Sl StM) (w : World) (hs : stepsOk w w.heap.size s) (hg : greatD n c s.l = true) :
    Calls Try.prog 6 #[.int .i64 n, .int .i64 c, s.v] w fun e w' => e = .returned (.bool true) ∧ Below w.heap.size w w' := by
  have HG := hide_ (great12_any n c s w.heap.size w hs)
  rw [hg] at HG
  obtain ⟨A, cp, l⟩ := s
  simp only [Sl.v] at HG ⊢
  obtain ⟨m, hm⟩ : ∃ m, l.length = m := ⟨_, rfl⟩
  rw [hm] at HG ⊢
  clear hs hg hm
  go_enter Try.func6, Try.ntmps6
  go_wp2_with (first | (go_at_call 7; refine HG.out.mono ?_; rintro e wg ⟨rfl, rfl⟩) | (go_at_call 8; refine (awake12_any _).mono ?_; rintro e wz ⟨rfl, hbz⟩))
  go_ret
  exact ⟨rfl, hbz⟩

/-- k writes to both -/
def InvA (w : World) (bc bd n c k : Nat) (wr : World) : Prop := ∃ Lc Ld D, Lc.b = bc ∧ Ld.b = bd ∧ Pair w Lc Ld D D wr ∧ D.calm ∧ D.n = n ∧ D.c = c ∧ D.waits.length ≤ k

set_option maxRecDepth 100000 in
set_option maxHeartbeats 1600000 in
theorem walk (n c : Nat) (A : Option Addr) (cp : Nat) (l : List StM) (m : Nat) (w : World) (hs : stepsOk w w.heap.size ⟨A, cp, l⟩) (hm : l.length = m) (hg : greatD n c l = false) :
    Calls Try.prog 6 #[.int .i64 (n : Int), .int .i64 (c : Int), .slice A m cp] w fun e w' => e = .returned (.bool true) ∧ Below w.heap.size w w' := by
  have hgr := of_decide_eq_false hg
  have h1 : 64 ≤ n := by have := mt Or.inl hgr; omega
  have h2 : n ≤ 512 := by have := mt (fun h => Or.inr (Or.inl h)) hgr; omega
  have h3 : 1 ≤ c := by have := mt (fun h => Or.inr (Or.inr (Or.inl h))) hgr; omega
  have h4 : c ≤ 40 := by have := mt (fun h => Or.inr (Or.inr (Or.inr (Or.inl h)))) hgr; omega
  have h5 : m ≤ 60 := by have := mt (fun h => Or.inr (Or.inr (Or.inr (Or.inr (Or.inl h))))) hgr; omega
  have H6 := hide_ (show ∀ x ∈ l, x.b.l.length ≤ 600 from fun x hx => by
    have := mt (fun h => Or.inr (Or.inr (Or.inr (Or.inr (Or.inr ⟨x, hx, h⟩))))) hgr
    omega)
  have HG := hide_ (show Calls Try.prog 7 #[.int .i64 (n : Int), .int .i64 (c : Int), .slice A m cp] w fun e w' => e = .returned (.bool false) ∧ w = w' from by
    have := great12_any n c ⟨A, cp, l⟩ w.heap.size w hs
    rwa [hg, Sl.v, hm] at this)
  have HS := hide_ hs
  have HM := hide_ hm
  clear hs hm hg hgr
  go_enter Try.func6, Try.ntmps6
  go_wp2_with (go_at_call 7; refine HG.out.mono ?_; rintro e wg ⟨rfl, rfl⟩)
  refine (New_good n c _ h1 h2 h3 (by omega)).mono ?_
  rintro e w1 ⟨Lc, rfl, hd1, hb1, hs1⟩
  have HD1 := hide_ hd1
  have HB1 := hide_ hb1
  have HS1 := hide_ hs1
  clear hd1 hb1 hs1
  obtain ⟨bc, hbc⟩ : ∃ bc, Lc.b = bc := ⟨_, rfl⟩
  rw [hbc]
  have HBC := hide_ hbc
  clear hbc
  go_wp2_with fail
  refine (New_good n c _ h1 h2 h3 (by omega)).mono ?_
  rintro e w2 ⟨Ld, rfl, hd2, hb2, hs2⟩
  obtain ⟨bd, hbd⟩ : ∃ bd, Ld.b = bd := ⟨_, rfl⟩
  rw [hbd]
  have HP := hide_ (show InvA w bc bd n c 0 w2 from ⟨Lc, Ld, makeD n c, HBC.out, hbd, ⟨HD1.out.below hb2, hd2, fun g e1 e2 => by
    have := HD1.out.lt e1
    have := hs2 g e2
    omega, HB1.out.trans (hb2.mono HB1.out.size), HS1.out, fun g e => Nat.le_trans HB1.out.size (hs2 g e)⟩, make_calm n c, rfl, rfl, by simp [makeD]⟩)
  clear hd2 hb2 hs2 hbd HD1 HB1 HS1 HBC
  go_wp2
  go_loopw [11] (fun i wr => ∃ k : Nat, k ≤ m ∧ i = .int .i64 (k : Int) ∧ Hid (InvA w bc bd n c k wr)) (fun i _ => m - (intOf i).toNat)
  case atStart => exact ⟨0, Nat.zero_le _, rfl, HP⟩
  case round =>
    obtain ⟨k, hk, rfl, HI⟩ := hrel
    obtain ⟨L1, L2, D, e1, e2, hp, hca, hdn, hdc, hdw⟩ := HI.out
    have HCA := hide_ hca
    have HDN := hide_ hdn
    have HDC := hide_ hdc
    have HDW := hide_ hdw
    have HPP := hide_ hp
    have E1 := hide_ e1
    have E2 := hide_ e2
    clear HI HP e1 e2 hca hdn hdc hdw hp
    by_cases hlt : k < m
    · obtain ⟨x, hx⟩ : ∃ x, l[k]? = some x := ⟨_, List.getElem?_eq_getElem (by rw [HM.out]; exact hlt)⟩
      have hmem := List.mem_of_getElem? hx
      obtain ⟨b, off, rfl, hb, _, q1, _, q3, _, _⟩ := HS.out.2.2.1.st hx
      have hbk := (HS.out.2.2.2 x hmem).2
      have h600 := H6.out x hmem
      clear hx hmem
      obtain ⟨xi, hxi⟩ : ∃ xi, x.i = xi := ⟨_, rfl⟩
      obtain ⟨xb, hxb⟩ : ∃ xb, x.b = xb := ⟨_, rfl⟩
      rw [hxi] at q1
      rw [hxb] at q3 hbk h600
      clear hxi hxb
      obtain ⟨xa, xc, xl⟩ := xb
      simp only [Sl.v] at q3
      simp only at h600
      obtain ⟨z, hz⟩ : ∃ z, xl.length = z := ⟨_, rfl⟩
      rw [hz] at q3 h600
      have HBK := hide_ hbk
      have HZ := hide_ hz
      have p1 := (HPP.out.b.cell (p := ⟨b, off + k * 6 + 1, none⟩) hb).trans q1
      have p3 := (HPP.out.b.cell (p := ⟨b, off + k * 6 + 3, none⟩) hb).trans q3
      obtain ⟨r, hr⟩ : ∃ r, errD D xi z = r := ⟨_, rfl⟩
      have HR := hide_ hr
      have HW1 := hide_ (HPP.out.drew.write E1.out xi ⟨xa, xc, xl⟩ hbk (by have := HDW.out; omega) (by rw [hz]; omega) hz)
      rw [hr] at HW1
      clear hbk hz hr
      go_wp2
      go_region_held (fun u => u.cell? ⟨b, off + k * 6 + 1, none⟩ = some (.int .i64 xi) ∧ u.cell? ⟨b, off + k * 6 + 3, none⟩ = some (.slice xa z xc))
        (first | exact ⟨p1, p3⟩ | exact ⟨s1, s3⟩ | exact ⟨t1, t3⟩)
        (first | (go_simp; go_at_call_of 20 bc; with_reducible refine HW1.out.mono ?_; rintro en w3 ⟨rfl, L3, eb3, hp3⟩; (have s1 := (hp3.b.cell (p := ⟨b, off + k * 6 + 1, none⟩) hb).trans q1); (have s3 := (hp3.b.cell (p := ⟨b, off + k * 6 + 3, none⟩) hb).trans q3); (have HW2 := hide_ (hp3.turn.write E2.out xi ⟨xa, xc, xl⟩ HBK.out (by have := HDW.out; omega) (by rw [HZ.out]; omega) HZ.out)); (rw [HR.out] at HW2); (have EB3 := hide_ eb3); clear eb3 hp3) | (go_simp; go_at_call 20; with_reducible refine HW2.out.mono ?_; rintro en w4 ⟨rfl, L4, eb4, hp4⟩; (have t1 := (hp4.b.cell (p := ⟨b, off + k * 6 + 1, none⟩) hb).trans q1); (have t3 := (hp4.b.cell (p := ⟨b, off + k * 6 + 3, none⟩) hb).trans q3); (have EB4 := hide_ eb4); (have HP4 := hide_ hp4); clear eb4 hp4))
      go_wp2
      go_roundw
      case rel =>
        obtain ⟨w1, w2, w3, w4, _⟩ := write_calm HCA.out xi xl
        refine ⟨k + 1, by omega, by go_num, hide_ ⟨_, _, _, EB3.out, EB4.out, HP4.out.turn, w1, w2.trans HDN.out, w3.trans HDC.out, by have := HDW.out; omega⟩⟩
      case measure => simp [intOf]; omega
    · obtain rfl : k = m := by omega
      have HSY := hide_ (HPP.out.sync E1.out)
      rw [(sync_calm HCA.out).1] at HSY
      go_wp2_with (first | (go_at_call 21; refine HSY.out.mono ?_; rintro en w3 ⟨rfl, L3, eb3, hp3⟩; (have HBA := hide_ (hp3.turn.back E2.out (k : Int) false)); (have EB3 := hide_ eb3); clear eb3 hp3) | (go_at_call 17; refine HBA.out.mono ?_; rintro en w4 ⟨rfl, L4, eb4, hp4⟩; (have EB4 := hide_ eb4); (have HP4 := hide_ hp4.turn); clear eb4 hp4))
      obtain ⟨a1, a2, a3, a4, a5, a6, a7, a8, a9⟩ := back_all HCA.out (k := (k : Int)) (by have := HDW.out; omega)
      obtain ⟨D1, hD1⟩ : ∃ D1, syncD D = D1 := ⟨_, rfl⟩
      obtain ⟨D2, hD2⟩ : ∃ D2, backD D (k : Int) false = D2 := ⟨_, rfl⟩
      rw [hD1, hD2] at HP4
      rw [hD1] at a1 a6 a7 a8 a9
      rw [hD2] at a1 a2 a3 a4 a5
      rw [HDC.out] at a4 a8
      rw [HDN.out] at a5 a9
      have HRD := hide_ (show ∀ j : Nat, j < c → reachD D1 j = 0 ∧ reachD D2 j = 0 ∧ rdB D1 j = rdB D2 j ∧ (rdB D2 j).length = n from fun j hj => by
        have d1 := rd_none a6 a7 (i := j) (by omega)
        have d2 := rd_none a2 a3 (i := j) (by omega)
        refine ⟨read_on a6 (by omega) (by omega), read_on a2 (by omega) (by omega), by rw [d1, d2, a1], ?_⟩
        rw [d2]
        exact (HP4.out.d.ok.k j).trans a5)
      clear hD1 hD2 a1 a2 a3 a4 a5 a6 a7 a8 a9 HSY HBA HCA HDN HDC HDW HPP E1 E2 D
      go_loopw [12] (fun i wr => ∃ j : Nat, j ≤ c ∧ i = .int .i64 (j : Int) ∧ Hid (Pair w L3 L4 D1 D2 wr)) (fun i _ => c - (intOf i).toNat)
      case atStart => exact ⟨0, Nat.zero_le _, rfl, HP4⟩
      case round =>
        obtain ⟨j, hj, rfl, HP5⟩ := hrel
        clear HP4
        by_cases hjc : j < c
        · obtain ⟨r1, r2, r3, r4⟩ := HRD.out j hjc
          have HR1 := hide_ (HP5.out.read EB3.out (j : Int))
          unfold ReadR at HR1
          rw [r1, r3] at HR1
          obtain ⟨rb, hrb⟩ : ∃ rb, rdB D2 (j : Int) = rb := ⟨_, rfl⟩
          rw [hrb] at HR1 r4
          rw [r4] at HR1
          have HRB := hide_ hrb
          have HR2 := hide_ r2
          have HR4 := hide_ r4
          clear r1 r2 r3 r4 hrb
          go_wp2_with (first | (go_at_call_of 19 bc; with_reducible refine HR1.out.mono ?_; rintro en w5 ⟨A5, c5, rfl, hown5, hb5⟩; (have HP6 := hide_ (HP5.out.below hb5)); (have HR3 := hide_ (HP6.out.turn.read EB4.out (j : Int))); (unfold ReadR at HR3); (rw [HR2.out, HRB.out, HR4.out] at HR3); (have HO5 := hide_ hown5); clear hown5 hb5) | (go_at_call 19; with_reducible refine HR3.out.mono ?_; rintro en w6 ⟨A6, c6, rfl, hown6, hb6⟩; (have HP7 := hide_ (HP6.out.below hb6)); (have cv5 := run_str (P := Try.prog) w6 38 9 5 Try.underlying38 Try.underlying5 Try.underlying9 rb w6.heap.size A5 n c5 HR4.out (Sees.own (own_below HO5.out hb6))); (have cv6 := run_str (P := Try.prog) w6 38 9 5 Try.underlying38 Try.underlying5 Try.underlying9 rb w6.heap.size A6 n c6 HR4.out (Sees.own hown6)); clear hown6 hb6))
          go_roundw
          case rel => exact ⟨j + 1, by omega, by go_num, HP7⟩
          case measure => simp [intOf]; omega
        · obtain rfl : j = c := by omega
          go_wp2_with (go_at_call 8; refine (awake12_any _).mono ?_; rintro e wz ⟨rfl, hbz⟩)
          go_ret
          exact ⟨rfl, HP5.out.b.trans (hbz.mono HP5.out.b.size)⟩

theorem own : ownKnob Try.prog.godebug = none := by kernel_rfl
theorem laid : laidOutB Try.prog = true := by kernel_rfl

set_option maxRecDepth 100000 in
theorem contract (H : Type) (enc : TypeId × Value → H) (W : World) (base : Nat) (args : Array Value) (ds gs : List (DataW H)) (before : List MemPlace)
    (hval : ∀ (j : Nat) t v, Try.f6.params[j]? = some t → args[j]? = some v → Value.okWide Try.prog W .any base t v)
    (hW : DataW.Whole enc Try.prog Try.f6.params.toList Rows.sectorAllSpec.vars false W args.toList ds gs before) :
    Calls Try.prog 6 args W fun e W' => ∃ v, e = .returned v ∧ Rows.sectorAllSpec.post enc Try.prog Try.f6 false true false false W args v W' := by
  have hW' := hW
  obtain ⟨p, q, hA0, hV, rfl, hfz, hnd⟩ := hW
  have hA : DataW.TrodAll enc Try.prog W 0 (fun _ => true) true Try.f6.params.toList args.toList ds p := hA0
  rw [Try.params6] at hA hval
  obtain ⟨v0, vs0, d0, ds0, p0, q0, hargs, rfl, rfl, h0, r0⟩ := trodAll_cons hA
  obtain ⟨v1, vs1, d1, ds1, p1, q1, rfl, rfl, rfl, h1, r1⟩ := trodAll_cons r0
  obtain ⟨v2, vs2, d2, ds2, p2, q2, rfl, rfl, rfl, h2, r2⟩ := trodAll_cons r1
  obtain ⟨rfl, rfl, rfl⟩ := trodAll_nil r2
  obtain rfl : args = #[v0, v1, v2] := by cases args; simp_all
  obtain ⟨rfl, rfl⟩ := trodVars_none hV
  obtain ⟨a0, rfl, rfl, rfl, w0⟩ := open_int Try.underlying3 (hval 0 3 v0 rfl rfl) h0
  have b0 : -9223372036854775808 ≤ a0 ∧ a0 ≤ 9223372036854775807 := by simpa [Lit.wf, IntKind.min, IntKind.max, IntKind.signed, IntKind.bits] using w0
  obtain ⟨a1, rfl, rfl, rfl, w1⟩ := open_int Try.underlying3 (hval 1 3 v1 rfl rfl) h1
  have b1 : -9223372036854775808 ≤ a1 ∧ a1 ≤ 9223372036854775807 := by simpa [Lit.wf, IntKind.min, IntKind.max, IntKind.signed, IntKind.bits] using w1
  obtain ⟨u2, rfl, bu2⟩ := open_steps (hval 2 22 v2 rfl rfl) h2
  have fin : ∀ (e : Ending) (W' : World), e = .returned (.bool true) ∧ Below W.heap.size W W' → ∃ v, e = .returned v ∧ Rows.sectorAllSpec.post enc Try.prog Try.f6 false true false false W #[.int .i64 a0, .int .i64 a1, Sl.v u2] v W' :=
    fun e W' ⟨he, hb⟩ => ⟨_, he, law_post laid (by kernel_rfl) rfl rfl rfl Try.underlying4 hW' hb⟩
  by_cases hg : greatD a0 a1 u2.l = true
  · exact (walk_long a0 a1 u2 W bu2 hg).mono fin
  · have hg' : greatD a0 a1 u2.l = false := by simpa using hg
    have hgr := of_decide_eq_false hg'
    obtain ⟨p, rfl⟩ : ∃ p : Nat, a0 = (p : Int) := ⟨a0.toNat, by have := mt Or.inl hgr; omega⟩
    obtain ⟨q, rfl⟩ : ∃ q : Nat, a1 = (q : Int) := ⟨a1.toNat, by have := mt (fun h => Or.inr (Or.inr (Or.inl h))) hgr; omega⟩
    obtain ⟨A, cp, l⟩ := u2
    exact (walk p q A cp l l.length W bu2 rfl hg').mono fin

set_option maxRecDepth 100000 in
theorem lifted (os : Os) (started : os.Started) (H : Type) (enc : TypeId × Value → H) :
    ReturnsInHanded {} Try.checked os 6 .any (Rows.sectorAllSpec.pre6 enc Try.prog Try.f6 Rows.sectorAllRow.domain false) (Rows.sectorAllSpec.post enc Try.prog Try.f6 false true false false) := by
  refine returnsInHanded_of_change (C := Try.checked) (s := Rows.sectorAllSpec) own started (by kernel_rfl) Try.func6
    (ChangeSpec.witness6 (enc := enc) (C := Try.checked) false ⟨#[], #[.int .i64 0, .int .i64 0, .slice none 0 0], []⟩ 8 (by kernel_rfl) (by kernel_rfl) (by kernel_rfl) (by kernel_rfl)) ?_
  intro W base args ds gs before hval hW _ _
  exact contract H enc W base args ds gs before hval hW

theorem proved : Rows.SectorAllSaid :=
  OpenClaim.holds_of_wide 6 Try.f6 rfl rfl rfl rfl rfl rfl rfl ⟨rfl, rfl, rfl, rfl, rfl⟩ rfl rfl rfl rfl rfl (by kernel_rfl) Try.func6 (by kernel_rfl)
    (of_decide_eq_true (by kernel_rfl)) (by unfold Func.isWrapper; first | (rw [if_pos (by decide +kernel)]; kernel_rfl) | (rw [if_neg (by decide +kernel)]; exact ⟨rfl, rfl⟩))
    (fun os started H enc _ => lifted os started H enc)
end Go.Proofs.Ytimgmpmibempaaa.sectorAll
