/-
  Contracts of ring's Of, and of the reference's Build, Keepers and Of.
-/
import Derived.Test.YtlcgihdphdkhpaaRing5
import Derived.Test.YtlcgihdphdkhpaaSort8
namespace Go.Proofs.Ytlcgihdphdkhpaa
open Go.RowKit

set_option maxRecDepth 100000 in
theorem Of9_any (l : List UInt8) (key : UInt8) (B : Nat) (A : Option Addr) (n c : Nat) (w : World) (hn : l.length = n) (hm : n ≤ 100) (h : Sees w B A (bv l)) (hB : B ≤ w.heap.size) :
    Calls Try.prog 32 #[.slice A n c, .int .u8 (key.toNat : Int)] w fun e w' => ∃ A' c', e = .returned (.slice A' (ofM l key).length c') ∧
      w'.ownsRow w.heap.size 5 1 (.slice A' (ofM l key).length c') (ofM l key).length (bv (ofM l key)) ∧ Below w.heap.size w w' := by
  have HB := hide_ (Build_any l B A n c w hn hm h hB)
  have HRL := hide_ (show (ringM l).length ≤ 1000 by
    rw [ringM_len]
    have := nubs_len_le l
    omega)
  have hofl : (ofM l key).length = (keepM (ringM l) (keyN key) 3).length := by rw [ofM, upB_len]
  have hof : upB (keepM (ringM l) (keyN key) 3) = ofM l key := rfl
  have h3 : (ofM l key).length ≤ 3 := ofM_len l key
  rw [hofl] at h3 ⊢
  rw [← hof]
  have HK := hide_ (fun R m rc u hm2 hs hb => Keepers_any (ringM l) key 3 u.heap.size R m rc u hm2 (by rw [← hm2]; exact HRL.out) hs hb)
  obtain ⟨r, hr⟩ : ∃ r, ringM l = r := ⟨_, rfl⟩
  obtain ⟨kp, hkp⟩ : ∃ kp, keepM r (keyN key) 3 = kp := ⟨_, rfl⟩
  simp only [hr, hkp] at HB HK h3 HRL ⊢
  clear hofl hof hr hkp h
  go_enter Try.func32, Try.ntmps32
  go_wp2_with fail
  refine HB.out.mono ?_
  rintro e w1 ⟨A1, n1, c1, rfl, hl1, ho1, hb1⟩
  have HO1 := hide_ ho1
  have HB1 := hide_ hb1
  have HL1 := hide_ hl1
  clear ho1 hb1 hl1
  go_wp2_with fail
  refine (HK.out A1 n1 c1 w1 HL1.out (Sees.ownRow9 HO1.out) (Nat.le_refl _)).mono ?_
  rintro e w2 ⟨A2, c2, rfl, ho2, hb2⟩
  have HS := hide_ (sort8_any kp w.heap.size kp.length c2 A2 w2 rfl (by omega) (by have := HB1.out.size; have := hb2.size; omega) (own_mono ho2 HB1.out.size))
  have HB2 := hide_ (HB1.out.trans (hb2.mono HB1.out.size))
  clear ho2 hb2
  go_wp2_with fail
  refine HS.out.mono ?_
  rintro e w3 ⟨rfl, ho3, hb3⟩
  go_wp2
  go_ret
  exact ⟨_, _, rfl, ho3, HB2.out.trans hb3⟩
end Go.Proofs.Ytlcgihdphdkhpaa
