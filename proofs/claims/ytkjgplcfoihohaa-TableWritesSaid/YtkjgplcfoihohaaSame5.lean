/-
  Contract of layer 5's reference's Same, of contracts that hold the same.
-/
import Derived.Test.YtkjgplcfoihohaaRefPut5
import Derived.Test.YtkjgplcfoihohaaTkGet
namespace Go.Proofs.Ytkjgplcfoihohaa
open Go.RowKit

set_option maxRecDepth 100000 in
set_option maxHeartbeats 1600000 in
theorem refSame5_any (st vs : Int) (t1 t2 : Sl RuM) (B : Nat) (w : World) (h1 : rusOk w B t1) (h2 : rusOk w B t2) (hB : B ≤ w.heap.size) (heq : t1.l.map RuM.bare = t2.l.map RuM.bare) :
    Calls Try.prog 13 #[tabV st vs t1, tabV st vs t2] w fun e w' => e = .returned (.bool true) ∧ Below w.heap.size w w' := by
  have hp := putR_of (st := st) (vs := vs) heq
  have HP1 := hide_ (fun (u : World) (hb : Below w.heap.size w u) => refPutT_any st vs t1 B u (rus_stable.below h1 (hb.mono hB)) (Nat.le_trans hB hb.size))
  have HP2 := hide_ (fun (u : World) (hb : Below w.heap.size w u) => refPutT_any st vs t2 B u (rus_stable.below h2 (hb.mono hB)) (Nat.le_trans hB hb.size))
  simp only [← hp] at HP2
  obtain ⟨R, hR⟩ : ∃ R, putR st vs t1.l = R := ⟨_, rfl⟩
  simp only [hR] at HP1 HP2
  clear hp hR heq h1 h2
  obtain ⟨A, c, l⟩ := t1
  obtain ⟨A', c', l'⟩ := t2
  obtain ⟨n, hn⟩ : ∃ n, l.length = n := ⟨_, rfl⟩
  obtain ⟨n', hn'⟩ : ∃ n, l'.length = n := ⟨_, rfl⟩
  simp only [tabV, Sl.v, hn, hn'] at HP1 HP2 ⊢
  clear hn hn'
  obtain ⟨rb, re⟩ := R
  obtain ⟨m, hm⟩ : ∃ m, rb.length = m := ⟨_, rfl⟩
  have HM := hide_ hm
  clear hm
  have HW0 := hide_ (((Below.refl w.heap.size w).alloc (Nat.le_refl _) (.cells #[.int .i64 st, .int .i64 vs, .slice A n c] 24)).alloc (by simp) (.cells #[.int .i64 st, .int .i64 vs, .slice A' n' c'] 24))
  have HX0 := hide_ (show BoxAt ((w.alloc (.cells #[.int .i64 st, .int .i64 vs, .slice A n c] 24)).alloc (.cells #[.int .i64 st, .int .i64 vs, .slice A' n' c'] 24)) (w.heap.size + 1) #[.int .i64 st, .int .i64 vs, .slice A' n' c'] 24 by
    have := BoxAt.new (w.alloc (.cells #[.int .i64 st, .int .i64 vs, .slice A n c] 24)) #[.int .i64 st, .int .i64 vs, .slice A' n' c'] 24
    simpa using this)
  go_enter Try.func13, Try.ntmps13
  go_wp2_with fail
  refine (HP1.out _ HW0.out).mono ?_
  rintro en w1 ⟨A1, c1, rfl, ho1, hb1⟩
  simp only [HM.out] at ho1 ⊢
  have HO1 := hide_ ho1
  have HB1 := hide_ (HW0.out.trans (hb1.mono (by simp; omega)))
  have HX1 := hide_ (HX0.out.below hb1)
  clear ho1 hb1
  have hz1 : w.heap.size + 1 < w1.heap.size := HX1.out.lt
  have hcx := HX1.out.cell
  go_wp2_with fail
  refine (HP2.out _ HB1.out).mono ?_
  rintro en w2 ⟨A2, c2, rfl, ho2, hb2⟩
  simp only [HM.out] at ho2 ⊢
  have k1 := run_str (P := Try.prog) w2 27 9 5 Try.underlying27 Try.underlying5 Try.underlying9 rb _ A1 m c1 HM.out (Sees.own (own_below HO1.out hb2))
  have k2 := run_str (P := Try.prog) w2 27 9 5 Try.underlying27 Try.underlying5 Try.underlying9 rb _ A2 m c2 HM.out (Sees.own ho2)
  have HB2 := hide_ (HB1.out.trans (hb2.mono (by omega)))
  clear ho2 hb2 hcx
  go_wp2
  go_ret
  exact ⟨rfl, HB2.out⟩
end Go.Proofs.Ytkjgplcfoihohaa
