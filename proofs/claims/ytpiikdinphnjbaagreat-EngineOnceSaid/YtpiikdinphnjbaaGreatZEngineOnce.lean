/-
 scrutineerlaw07.EngineOnce answers true for every input and leaves its input as it was; no condition.
-/
import Derived.Test.YtpiikdinphnjbaaGreatJ49
import Derived.Test.YtpiikdinphnjbaaGreatHeld
namespace Go.Proofs.YtpiikdinphnjbaaGreat
open Go.ChangeShapes Go.WideShapes Go.ChangeAt Go.RowKit Go.Joins Go.Deep

section
variable {H : Type} {enc : TypeId × Value → H} {w : World} {base : Nat} {spare : Nat → Bool} {held : Bool}
set_option maxRecDepth 100000 in
theorem el_cel {n : Nat} {xs : List Value} {y : DataW H × List MemPlace} (hl : xs.length = 4) (h : DataW.trod enc Tryz.prog w base spare held n 51 xs = some y) : ∃ t, xs = celC t ∧ celIn t := by
 match xs, hl with
 | [c0, c1, c2, c3], _ =>
  obtain ⟨_, _, h0⟩ := field_at Tryz.underlying51 h 0 rfl rfl rfl (by kernel_rfl) rfl
  obtain ⟨_, _, h1⟩ := field_at Tryz.underlying51 h 1 rfl rfl rfl (by kernel_rfl) rfl
  obtain ⟨_, _, h2⟩ := field_at Tryz.underlying51 h 2 rfl rfl rfl (by kernel_rfl) rfl
  obtain ⟨_, _, h3⟩ := field_at Tryz.underlying51 h 3 rfl rfl rfl (by kernel_rfl) rfl
  obtain ⟨a, rfl, ha⟩ := open_u64c Tryz.underlying25 h0
  obtain ⟨b, rfl, hb⟩ := open_u8c Tryz.underlying5 h1
  obtain ⟨c, rfl, hc⟩ := open_i64c Tryz.underlying3 h2
  obtain ⟨d, rfl, hd⟩ := open_i64c Tryz.underlying2 h3
  exact ⟨(a, b, c, d), rfl, ha, hb, hc, hd⟩
theorem open_celc {n : Nat} {v : Value} {y : DataW H × List MemPlace} (h : DataW.trod enc Tryz.prog w base spare held n 28 [v] = some y) : ∃ s : Sl CelM, v = s.v ∧ celsOk w w.heap.size s := by
 obtain ⟨s, hv, h1, h2, h3, h4⟩ := open_sl celC celIn (q := 4) (by omega) Tryz.underlying28 (by kernel_rfl) (fun _ => rfl) (fun _ _ _ hl h => el_cel hl h) h
 exact ⟨s, hv, h1, h2, h3, h4⟩
set_option maxRecDepth 100000 in
theorem el_done {n : Nat} {xs : List Value} {y : DataW H × List MemPlace} (hl : xs.length = 6) (h : DataW.trod enc Tryz.prog w base spare held n 63 xs = some y) : ∃ t, xs = DoneM.cs t ∧ DoneM.ok w w.heap.size t := by
 match xs, hl with
 | [c0, c1, c2, c3, c4, c5], _ =>
  obtain ⟨_, _, h0⟩ := field_at Tryz.underlying63 h 0 rfl rfl rfl (by kernel_rfl) rfl
  obtain ⟨_, _, h1⟩ := field_at Tryz.underlying63 h 1 rfl rfl rfl (by kernel_rfl) rfl
  obtain ⟨_, _, h2⟩ := field_many (cs := [c2, c3, c4, c5]) (q := 4) Tryz.underlying63 h 2 rfl rfl rfl (by kernel_rfl) rfl
  obtain ⟨a, rfl, ha⟩ := open_u8c Tryz.underlying5 h0
  obtain ⟨b, rfl, hb⟩ := open_u64c Tryz.underlying25 h1
  obtain ⟨c, hc, hco⟩ := el_rep rfl h2
  obtain ⟨er, inc, st, va⟩ := c
  simp only [RepM.cs, List.cons.injEq, and_true] at hc
  obtain ⟨rfl, rfl, rfl, rfl⟩ := hc
  exact ⟨⟨a, b, er, inc, st, va⟩, rfl, ⟨ha, hb, hco.1⟩, hco.2⟩
theorem open_donec {n : Nat} {v : Value} {y : DataW H × List MemPlace} (h : DataW.trod enc Tryz.prog w base spare held n 27 [v] = some y) : ∃ s : Sl DoneM, v = s.v ∧ dnsOk w w.heap.size s := by
 obtain ⟨s, hv, h1, h2, h3, h4⟩ := open_sl DoneM.cs (DoneM.ok w w.heap.size) (q := 6) (by omega) Tryz.underlying27 (by kernel_rfl) (fun _ => rfl) (fun _ _ _ hl h => el_done hl h) h
 exact ⟨s, hv, h1, h2, h3, h4⟩
set_option maxRecDepth 100000 in
theorem el_reg {n : Nat} {xs : List Value} {y : DataW H × List MemPlace} (hl : xs.length = 8) (h : DataW.trod enc Tryz.prog w base spare held n 31 xs = some y) : ∃ t, xs = RegM.cs t ∧ RegM.ok w w.heap.size t := by
 match xs, hl with
 | [c0, c1, c2, c3, c4, c5, c6, c7], _ =>
  obtain ⟨_, _, h0⟩ := field_at Tryz.underlying31 h 0 rfl rfl rfl (by kernel_rfl) rfl
  obtain ⟨_, _, h1⟩ := field_at Tryz.underlying31 h 1 rfl rfl rfl (by kernel_rfl) rfl
  obtain ⟨_, _, h2⟩ := field_at Tryz.underlying31 h 2 rfl rfl rfl (by kernel_rfl) rfl
  obtain ⟨_, _, h3⟩ := field_at Tryz.underlying31 h 3 rfl rfl rfl (by kernel_rfl) rfl
  obtain ⟨_, _, h4⟩ := field_at Tryz.underlying31 h 4 rfl rfl rfl (by kernel_rfl) rfl
  obtain ⟨_, _, h5⟩ := field_at Tryz.underlying31 h 5 rfl rfl rfl (by kernel_rfl) rfl
  obtain ⟨_, _, h6⟩ := field_at Tryz.underlying31 h 6 rfl rfl rfl (by kernel_rfl) rfl
  obtain ⟨_, _, h7⟩ := field_at Tryz.underlying31 h 7 rfl rfl rfl (by kernel_rfl) rfl
  obtain ⟨a, rfl, ha⟩ := open_u8c Tryz.underlying5 h0
  obtain ⟨b, rfl, hb⟩ := open_u64c Tryz.underlying25 h1
  obtain ⟨c, rfl, hc⟩ := open_i64c Tryz.underlying3 h2
  obtain ⟨d, rfl, hd⟩ := open_intc h3
  obtain ⟨e, rfl, he⟩ := open_donec h4
  obtain ⟨f, rfl, hf⟩ := open_celc h5
  obtain ⟨g, rfl, hg⟩ := open_u64c Tryz.underlying25 h6
  obtain ⟨i, rfl, hi⟩ := open_mrkc h7
  exact ⟨⟨a, b, c, d, e, f, g, i⟩, rfl, ⟨ha, hb, hc, hg⟩, hd, he, hf, hi⟩
set_option maxRecDepth 100000 in
/-- a register that comes in -/
theorem open_reg {r : Reach} {b0 : Nat} {v : Value} {d : DataW H} {p : List MemPlace} (hv : Value.okWide Tryz.prog w r b0 31 v) (h : DataW.Trod enc Tryz.prog w base spare held 31 v d p) :
  ∃ s : RegM, v = s.v ∧ RegM.ok w w.heap.size s := by
 obtain ⟨cs, rfl, hsz⟩ := okWide_struct Tryz.underlying31 hv
 obtain ⟨fuel, hf⟩ := h
 obtain ⟨l⟩ := cs
 have h8 : Tryz.prog.cellsOf 31 = 8 := by kernel_rfl
 have hl : l.length = 8 := hsz.trans h8
 obtain ⟨s, e, hs⟩ := el_reg (by simpa [Value.cells] using hl) hf
 refine ⟨s, ?_, hs⟩
 have e2 : l = RegM.cs s := by simpa [Value.cells] using e
 rw [e2]
 rfl
end
/-- an operation of a drawn region that yields a value -/
theorem tkY {P : Program} {ops : Array Oper} {Q : Exit → Act → World → Prop} {md : Region.Mode} {S : World → Prop} {fuel : Nat} {listed : Array Bool} {a : Act} {w : World} (i n : Nat) (v : Value) {p1 p2 p3 p4 p5}
  (hi : ops[i]? = some ⟨some n, p1, p2, p3, p4, p5⟩) (hy : ∀ w, S w → (execOp a.eval ⟨some n, p1, p2, p3, p4, p5⟩).run P w = .ok (.value v) w) (hS : S w) (h : wpAnyH P md ops Q S fuel (listed.setIfInBounds i true) (a.put (some n) v) w)
  (hs : Region.noSelect ops = true := by kernel_rfl) (hf : Region.free md ops listed i = true := by kernel_rfl) (hr : (Region.ready md ops listed).contains i = true := by kernel_rfl)
  (hQ : ∀ c a w, Q (.panic c) (a.put (some n) v) w → Q (.panic c) a w := by exact fun _ _ _ h => h)
  (hg : Region.wanted ⟨some n, p1, p2, p3, p4, p5⟩ (yielded ops a.tmps) = true := by rfl) : wpAnyH P md ops Q S (fuel + 1) listed a w :=
 wpAnyH_take (v := v) hi hs hf hr hQ (Or.inl ⟨hg, hy⟩) hS h
end Go.Proofs.YtpiikdinphnjbaaGreat
namespace Go.Proofs.YtpiikdinphnjbaaGreat.engineOnce
open Go.ChangeShapes Go.WideShapes Go.ChangeAt Go.RowKit

/-- with the kind of a consuming -/
def five (m : OpM) : OpM := ⟨5, m.ke, m.cl, m.sq, m.ac, m.pa, m.ar, m.so, m.inc, m.ce⟩

theorem free7 {w : World} {g : Nat} {cs : Array Value} {t : TypeId} (h : BoxAt w g cs t) (i : Nat) : w.frozen? ⟨g, i, none⟩ = false := by
 unfold BoxAt at h
 simp [World.frozen?, h]
theorem box_far7 {w w' : World} {g b : Nat} {cs : Array Value} {t : TypeId} (hg : w.grownBy w' (some g)) (hb : BoxAt w b cs t) (hne : g ≠ b) : BoxAt w' b cs t :=
 (hg.block b hb.lt (fun e => by injection e with e; exact hne e.symm)).trans hb

set_option maxRecDepth 100000 in
set_option maxHeartbeats 12800000 in
set_option linter.unusedSimpArgs false in
theorem walk (ts tv : Int) (t : Sl RuM) (r : RegM) (m : OpM) (l : Sl OpM) (cn : Int) (w : World) (ht : rusOk w w.heap.size t) (hr : RegM.ok w w.heap.size r) (hm : OpM.ok m) (hl : opsOk w w.heap.size l) (hc : U64 cn) :
  Calls Tryz.prog 4 #[tabV ts tv t, r.v, m.v, l.v, .int .u64 cn] w fun e w' => e = .returned (.bool true) ∧ Below w.heap.size w w' := by
 have RU := fun (u : World) (h : Below w.heap.size w u) => reg_stable.below hr h
 have TU := fun (u : World) (h : Below w.heap.size w u) => rus_stable.below ht h
 have LU := hide_ (fun (u : World) (h : Below w.heap.size w u) => ops_stable.below hl h)
 have h5ok : OpM.ok (five m) := ⟨⟨by unfold five U8; simp, hm.1.2⟩, hm.2⟩
 have HG := hide_ (fun (u : World) (h : Below w.heap.size w u) => great7_any ts tv t r w.heap.size u (TU u h) (RU u h) h.size)
 have HR := hide_ (fun (u : World) (h : Below w.heap.size w u) => refRight_any ts tv t r (five m) cn w.heap.size u (TU u h) (RU u h) h5ok h.size)
 have HA := hide_ (fun (u : World) => awake07_any u)
 have HAP := hide_ (fun (u : World) (h : Below w.heap.size w u) hq h1 h2 h3 h4 h5 => apply_right ts tv t r (five m) cn w.heap.size u (TU u h) (RU u h) h5ok hc h.size hq h1 h2 h3 h4 h5)
 have HRX := hide_ (fun (u : World) (x : RegM) (o : OpM) (c : Int) (h : Below w.heap.size w u) (hx : RegM.ok u u.heap.size x) (ho : OpM.ok o) => refRight_any ts tv t x o c u.heap.size u (rus_stable.more (TU u h) h.size) hx ho (Nat.le_refl _))
 have HAX := hide_ (fun (u : World) (x : RegM) (o : OpM) (c : Int) (h : Below w.heap.size w u) (hx : RegM.ok u u.heap.size x) (ho : OpM.ok o) (hc : U64 c) (hq : rightB ts tv t.l x.p o c = true) =>
  show Calls Tryz.prog 8 #[tabV ts tv t, x.v, o.v, .int .u64 c] u (Applies (applyG ts tv t.l x.p o c) 0 u) from by
   have hl := lens_of (rightB_lens hq).1
   exact apply_right ts tv t x o c u.heap.size u (rus_stable.more (TU u h) h.size) hx ho hc (Nat.le_refl _) hq hl.1 hl.2.1 hl.2.2.1 hl.2.2.2.1 hl.2.2.2.2)
 have HSD := hide_ (fun (u : World) (x y : RegM) (hx : RegM.ok u u.heap.size x) (hy : RegM.ok u u.heap.size y) => refSameG_any x y u.heap.size u hx hy (Nat.le_refl _))
 have HST := hide_ (fun (u : World) (x : RegM) (hx : RegM.ok u u.heap.size x) => Settled_any x m.so m.inc m.ce u.heap.size u hx (Nat.le_refl _))
 obtain ⟨hl1, hl2, -, hlo⟩ := hl
 have HLO := hide_ hlo
 have HC := hide_ hc
 have H5 := hide_ h5ok
 have hla0 : 0 ≤ r.p.la := hr.1.2.2.2.1
 have HLA := hide_ hla0
 have hn63 : l.l.length ≤ 9223372036854775807 := by unfold maxLen at hl2; omega
 clear RU TU ht hr hm hlo hc h5ok hla0 hl2
 obtain ⟨lA, lc, ll⟩ := l
 simp only at hl1 hn63 HLO
 simp only [tabV, RegM.v, OpM.v, Sl.v, five] at HG HR HAP HRX HAX HSD HST ⊢
 obtain ⟨W0, hW0⟩ : ∃ W0, ((w.alloc (.cells #[.int .i64 ts, .int .i64 tv, .slice t.A t.l.length t.c] 24)).alloc (.cells #[.int .u8 r.ki, .int .u64 r.inc, .int .i64 r.st, .slice r.va.A r.va.l.length r.va.c, .slice r.dn.A r.dn.l.length r.dn.c, .slice r.ou.A r.ou.l.length r.ou.c, .int .u64 r.la, .slice r.ma.A r.ma.l.length r.ma.c] 31)).alloc (.cells #[.int .u8 5, .int .u8 m.ke, .int .u8 m.cl, .int .u64 m.sq, .int .i64 m.ac, .int .i64 m.pa, .int .i64 m.ar, .int .u8 m.so, .int .u64 m.inc, .int .u64 m.ce] 33) = W0 := ⟨_, rfl⟩
 have HXT := hide_ (show BoxAt W0 w.heap.size #[.int .i64 ts, .int .i64 tv, .slice t.A t.l.length t.c] 24 from hW0 ▸ ((BoxAt.new w _ _).alloc _).alloc _)
 have HXR := hide_ (show BoxAt W0 (w.heap.size + 1) #[.int .u8 r.ki, .int .u64 r.inc, .int .i64 r.st, .slice r.va.A r.va.l.length r.va.c, .slice r.dn.A r.dn.l.length r.dn.c, .slice r.ou.A r.ou.l.length r.ou.c, .int .u64 r.la, .slice r.ma.A r.ma.l.length r.ma.c] 31 from by
  have h := (BoxAt.new (w.alloc (.cells #[.int .i64 ts, .int .i64 tv, .slice t.A t.l.length t.c] 24)) #[.int .u8 r.ki, .int .u64 r.inc, .int .i64 r.st, .slice r.va.A r.va.l.length r.va.c, .slice r.dn.A r.dn.l.length r.dn.c, .slice r.ou.A r.ou.l.length r.ou.c, .int .u64 r.la, .slice r.ma.A r.ma.l.length r.ma.c] 31).alloc (.cells #[.int .u8 5, .int .u8 m.ke, .int .u8 m.cl, .int .u64 m.sq, .int .i64 m.ac, .int .i64 m.pa, .int .i64 m.ar, .int .u8 m.so, .int .u64 m.inc, .int .u64 m.ce] 33)
  rw [hW0] at h
  simpa using h)
 have HXO := hide_ (show BoxAt W0 (w.heap.size + 1 + 1) #[.int .u8 5, .int .u8 m.ke, .int .u8 m.cl, .int .u64 m.sq, .int .i64 m.ac, .int .i64 m.pa, .int .i64 m.ar, .int .u8 m.so, .int .u64 m.inc, .int .u64 m.ce] 33 from by
  have h := BoxAt.new ((w.alloc (.cells #[.int .i64 ts, .int .i64 tv, .slice t.A t.l.length t.c] 24)).alloc (.cells #[.int .u8 r.ki, .int .u64 r.inc, .int .i64 r.st, .slice r.va.A r.va.l.length r.va.c, .slice r.dn.A r.dn.l.length r.dn.c, .slice r.ou.A r.ou.l.length r.ou.c, .int .u64 r.la, .slice r.ma.A r.ma.l.length r.ma.c] 31)) #[.int .u8 5, .int .u8 m.ke, .int .u8 m.cl, .int .u64 m.sq, .int .i64 m.ac, .int .i64 m.pa, .int .i64 m.ar, .int .u8 m.so, .int .u64 m.inc, .int .u64 m.ce] 33
  rw [hW0] at h
  simpa using h)
 have HB0 := hide_ (show Below w.heap.size w W0 from hW0 ▸ (((Below.refl _ _).alloc (Nat.le_refl _) _).alloc (by simp) _).alloc (by simp; omega) _)
 have HW0 := hide_ hW0
 clear hW0
 obtain ⟨n, hn⟩ : ∃ n, ll.length = n := ⟨_, rfl⟩
 rw [hn] at hl1 hn63 ⊢
 have HN := hide_ hn
 clear hn
 go_enter Tryz.func4, Tryz.ntmps4
 go_upto_region 2 with fail
 rw [HW0.out]
 have hct := HXT.out.cell
 have hcr := HXR.out.cell
 have hco := HXO.out.cell
 have zt := HXT.out.lt
 have zr := HXR.out.lt
 have zo := HXO.out.lt
 go_wp2_with fail
 clear hct hcr hco zt zr zo
 refine (HG.out _ HB0.out).mono ?_
 rintro e1 w1 ⟨b1, rfl, hb1, hlen⟩
 have HLEN := hide_ hlen
 have HB1 := hide_ (HB0.out.trans (hb1.mono HB0.out.size))
 have HT1 := hide_ (HXT.out.below hb1)
 have HR1 := hide_ (HXR.out.below hb1)
 have HO1 := hide_ (HXO.out.below hb1)
 clear hb1 hlen
 have hct := HT1.out.cell
 have hcr := HR1.out.cell
 have hco := HO1.out.cell
 have zt := HT1.out.lt
 have zr := HR1.out.lt
 have zo := HO1.out.lt
 cases b1 with
 | true =>
  go_wp2_with fail
  refine (HA.out _).mono ?_
  rintro e3 w3 ⟨rfl, hb3⟩
  have HB3 := hide_ (HB1.out.trans (hb3.mono HB1.out.size))
  go_wp2
  go_ret
  exact ⟨rfl, HB3.out⟩
 | false =>
 by_cases h40 : 40 < n
 case pos =>
  go_wp2_with fail
  refine (HA.out _).mono ?_
  rintro e3 w3 ⟨rfl, hb3⟩
  have HB3 := hide_ (HB1.out.trans (hb3.mono HB1.out.size))
  go_wp2
  go_ret
  exact ⟨rfl, HB3.out⟩
 by_cases hki : r.ki = 1
 case neg =>
  have dki : (r.ki != 1) = true := bne_iff_ne.2 hki
  go_wp2_with fail
  refine (HA.out _).mono ?_
  rintro e3 w3 ⟨rfl, hb3⟩
  have HB3 := hide_ (HB1.out.trans (hb3.mono HB1.out.size))
  go_wp2
  go_ret
  exact ⟨rfl, HB3.out⟩
 have dki : (r.ki != 1) = false := bne_eq_false_iff_eq.2 hki
 have HKI := hide_ hki
 clear hki
 go_wp2_with fail
 clear hct hcr hco zt zr zo
 refine (HR.out _ HB1.out).mono ?_
 rintro e2 w2 ⟨rfl, hb2⟩
 have HB2 := hide_ (HB1.out.trans (hb2.mono HB1.out.size))
 have HT2 := hide_ (HT1.out.below hb2)
 have HR2 := hide_ (HR1.out.below hb2)
 have HO2 := hide_ (HO1.out.below hb2)
 clear hb2
 have hct := HT2.out.cell
 have hcr := HR2.out.cell
 have hco := HO2.out.cell
 have zt := HT2.out.lt
 have zr := HR2.out.lt
 have zo := HO2.out.lt
 obtain ⟨qr, hqr⟩ : ∃ q, rightB ts tv t.l r.p ⟨5, m.ke, m.cl, m.sq, m.ac, m.pa, m.ar, m.so, m.inc, m.ce⟩ cn = q := ⟨_, rfl⟩
 rw [hqr]
 cases qr with
 | false =>
  go_wp2_with fail
  refine (HA.out _).mono ?_
  rintro e3 w3 ⟨rfl, hb3⟩
  have HB3 := hide_ (HB2.out.trans (hb3.mono HB2.out.size))
  go_wp2
  go_ret
  exact ⟨rfl, HB3.out⟩
 | true =>
 have HQ := hide_ hqr
 clear hqr
 by_cases hc60 : 1152921504606846976 < cn
 case pos =>
  go_wp2_with fail
  refine (HA.out _).mono ?_
  rintro e3 w3 ⟨rfl, hb3⟩
  have HB3 := hide_ (HB2.out.trans (hb3.mono HB2.out.size))
  go_wp2
  go_ret
  exact ⟨rfl, HB3.out⟩
 have hcn0 := HC.out.1
 go_wp2_with fail
 clear hct hcr hco zt zr zo
 obtain ⟨h1, h2, h3, h4, h5⟩ := HLEN.out (by first | trivial | rfl)
 refine (HAP.out w2 HB2.out HQ.out h1 h2 h3 h4 h5).mono ?_
 clear h1 h2 h3 h4 h5 HAP HG HR
 rintro e3 w3 ⟨x, y, rfl, hxp, hyp, hfr, hyn, hyv, hb3⟩
 have HB3 := hide_ (HB2.out.trans (hb3.mono HB2.out.size))
 have HT3 := hide_ (HT2.out.below hb3)
 have HO3 := hide_ (HO2.out.below hb3)
 have HFR := hide_ hfr
 have hs3 : w.heap.size + 1 + 1 < w3.heap.size := by have := HO3.out.lt; omega
 have hz2 : w2.heap.size ≤ w3.heap.size := hb3.size
 have HGX := hide_ (show GoodG tv x.p from hxp ▸ apply_good HQ.out HLA.out H5.out)
 have HSX := hide_ (show setdB m.so m.inc m.ce x.p.ma = true from hxp ▸ once_first HQ.out rfl HKI.out)
 clear hb3 hfr hyn hyv hxp hyp HB2 HT2 HR2 HO2 HB1 HT1 HR1 HO1 HLA HKI HXT HXR HXO HB0 HW0
 simp only [RegM.v, RepM.v, Sl.v]
 obtain ⟨W4, hW4⟩ : ∃ W4, (w3.alloc (.cells #[.int .u8 x.ki, .int .u64 x.inc, .int .i64 x.st, .slice x.va.A x.va.l.length x.va.c, .slice x.dn.A x.dn.l.length x.dn.c, .slice x.ou.A x.ou.l.length x.ou.c, .int .u64 x.la, .slice x.ma.A x.ma.l.length x.ma.c] 31)).alloc (.cells #[.int .i64 y.er, .int .u64 y.inc, .int .i64 y.st, .slice y.va.A y.va.l.length y.va.c] 38) = W4 := ⟨_, rfl⟩
 have hb4 : Below w3.heap.size w3 W4 := hW4 ▸ ((Below.refl _ _).alloc (Nat.le_refl _) _).alloc (by simp) _
 have HX4 := hide_ (show BoxAt W4 w3.heap.size #[.int .u8 x.ki, .int .u64 x.inc, .int .i64 x.st, .slice x.va.A x.va.l.length x.va.c, .slice x.dn.A x.dn.l.length x.dn.c, .slice x.ou.A x.ou.l.length x.ou.c, .int .u64 x.la, .slice x.ma.A x.ma.l.length x.ma.c] 31 from hW4 ▸ (BoxAt.new w3 _ _).alloc _)
 have HT4 := hide_ (HT3.out.below hb4)
 have HO4 := hide_ (HO3.out.below hb4)
 have HB4 := hide_ (HB3.out.trans (hb4.mono HB3.out.size))
 have HA4 := hide_ (show Aside7 W4 w3.heap.size x from Aside7.low (reg_stable.below HFR.out.ok hb4) (Nat.le_refl _) hb4.size)
 have HW4 := hide_ hW4
 clear hW4 hb4 HFR
 go_upto_region 5 with fail
 rw [HW4.out]
 have hzX : w3.heap.size < W4.heap.size := HX4.out.lt
 obtain ⟨zx, hzx⟩ : ∃ z, w3.heap.size = z := ⟨_, rfl⟩
 rw [hzx] at HX4 HA4 hs3 hzX ⊢
 have HCE := hide_ (fun (u : World) (h : Below w.heap.size w u) => show Sees u w.heap.size lA (ll.flatMap OpM.cs) from (LU.out u h).2.2.1)
 clear hzx HT3 HO3 HB3 LU HW4 hz2
 go_wp2_with fail
 go_loopw [14] (fun i wx => ∃ (k : Nat) (x : RegM), k ≤ n ∧ i = .int .i64 k ∧ Hid (BoxAt wx zx #[.int .u8 x.ki, .int .u64 x.inc, .int .i64 x.st, .slice x.va.A x.va.l.length x.va.c, .slice x.dn.A x.dn.l.length x.dn.c, .slice x.ou.A x.ou.l.length x.ou.c, .int .u64 x.la, .slice x.ma.A x.ma.l.length x.ma.c] 31) ∧ Hid (Aside7 wx zx x) ∧ Hid (GoodG tv x.p) ∧ Hid (setdB m.so m.inc m.ce x.p.ma = true) ∧ Hid (BoxAt wx w.heap.size #[.int .i64 ts, .int .i64 tv, .slice t.A t.l.length t.c] 24) ∧ Hid (BoxAt wx (w.heap.size + 1 + 1) #[.int .u8 5, .int .u8 m.ke, .int .u8 m.cl, .int .u64 m.sq, .int .i64 m.ac, .int .i64 m.pa, .int .i64 m.ar, .int .u8 m.so, .int .u64 m.inc, .int .u64 m.ce] 33) ∧ Hid (Below w.heap.size w wx)) (fun i _ => n - (intOf i).toNat)
 case atStart => exact ⟨0, x, by omega, rfl, HX4, HA4, HGX, HSX, HT4, HO4, HB4⟩
 case round =>
  clear HX4 HA4 HGX HSX HT4 HO4 HB4
  obtain ⟨k, x, hk, rfl, HX, HXA, HGX, HSX, HT, HO, HB⟩ := hrel
  have hzr : zx < wr.heap.size := HX.out.lt
  by_cases hlt : k < n
  case neg =>
   obtain rfl : n = k := by omega
   have hcx := HX.out.cell
   have hco := HO.out.cell
   have zo := HO.out.lt
   go_wp2_with fail
   clear hcx hco zo
   refine (HST.out _ x HXA.out.ok).mono ?_
   rintro e4 w4 ⟨rfl, hb4⟩
   rw [show setdB m.so m.inc m.ce x.ma.l = true from HSX.out]
   have HB5 := hide_ (HB.out.trans (hb4.mono HB.out.size))
   clear hb4
   go_wp2_with fail
   refine (HA.out _).mono ?_
   rintro e5 w5 ⟨rfl, hb5⟩
   have HB6 := hide_ (HB5.out.trans (hb5.mono HB5.out.size))
   clear hb5
   go_wp2
   go_ret
   exact ⟨rfl, HB6.out⟩
  have hkl : k < ll.length := by rw [HN.out]; exact hlt
  obtain ⟨ob, oo, rfl, hobB, q0, q1, q2, q3, q4, q5, q6, q7, q8, q9⟩ := (HCE.out _ HB.out).op7 (List.getElem?_eq_getElem hkl)
  have hoi := HLO.out _ (List.getElem_mem hkl)
  obtain ⟨oi, hoe⟩ : ∃ o, ll[k] = o := ⟨_, rfl⟩
  rw [hoe] at q0 q1 q2 q3 q4 q5 q6 q7 q8 q9 hoi
  have HOI := hide_ (show OpM.ok oi from hoi)
  clear hoe hoi hkl
  have hszw : w.heap.size ≤ wr.heap.size := HB.out.size
  have hobr : ob < wr.heap.size := by omega
  have HCO := hide_ (fun (u : World) (hu : Below wr.heap.size wr u) => show u.cell? ⟨ob, oo + k * 10, none⟩ = some (.int .u8 oi.ki) ∧ u.cell? ⟨ob, oo + k * 10 + 1, none⟩ = some (.int .u8 oi.ke) ∧ u.cell? ⟨ob, oo + k * 10 + 2, none⟩ = some (.int .u8 oi.cl) ∧ u.cell? ⟨ob, oo + k * 10 + 3, none⟩ = some (.int .u64 oi.sq) ∧ u.cell? ⟨ob, oo + k * 10 + 4, none⟩ = some (.int .i64 oi.ac) ∧ u.cell? ⟨ob, oo + k * 10 + 5, none⟩ = some (.int .i64 oi.pa) ∧ u.cell? ⟨ob, oo + k * 10 + 6, none⟩ = some (.int .i64 oi.ar) ∧ u.cell? ⟨ob, oo + k * 10 + 7, none⟩ = some (.int .u8 oi.so) ∧ u.cell? ⟨ob, oo + k * 10 + 8, none⟩ = some (.int .u64 oi.inc) ∧ u.cell? ⟨ob, oo + k * 10 + 9, none⟩ = some (.int .u64 oi.ce) from
   ⟨(hu.cell (p := ⟨ob, oo + k * 10, none⟩) hobr).trans q0, (hu.cell (p := ⟨ob, oo + k * 10 + 1, none⟩) hobr).trans q1, (hu.cell (p := ⟨ob, oo + k * 10 + 2, none⟩) hobr).trans q2, (hu.cell (p := ⟨ob, oo + k * 10 + 3, none⟩) hobr).trans q3, (hu.cell (p := ⟨ob, oo + k * 10 + 4, none⟩) hobr).trans q4, (hu.cell (p := ⟨ob, oo + k * 10 + 5, none⟩) hobr).trans q5, (hu.cell (p := ⟨ob, oo + k * 10 + 6, none⟩) hobr).trans q6, (hu.cell (p := ⟨ob, oo + k * 10 + 7, none⟩) hobr).trans q7, (hu.cell (p := ⟨ob, oo + k * 10 + 8, none⟩) hobr).trans q8, (hu.cell (p := ⟨ob, oo + k * 10 + 9, none⟩) hobr).trans q9⟩)
  have HCT := hide_ (fun (u : World) (hu : Below wr.heap.size wr u) => (HT.out.below hu).cell)
  have HCX := hide_ (fun (u : World) (hu : Below wr.heap.size wr u) => (HX.out.below hu).cell)
  have zt := HT.out.lt
  have hcnt : cn + (k : Int) ≤ 18446744073709551615 := by omega
  have hcn1 : U64 (cn + (k : Int)) := by unfold U64; omega
  have HCK := hide_ hcn1
  clear q0 q1 q2 q3 q4 q5 q6 q7 q8 q9 hcn1
  have hcn40 : IntKind.u64.wrap (cn + (k : Int)) = cn + (k : Int) := by simp [IntKind.wrap, IntKind.bits, IntKind.signed]; omega
  have hk40 : IntKind.u64.wrap (k : Int) = (k : Int) := by simp [IntKind.wrap, IntKind.bits, IntKind.signed]; omega
  have HA2 := HA
  clear HA
  go_upto_region 10 with fail
  refine wp_region_held_drew (S := fun u => Below wr.heap.size wr u) (by kernel_rfl) ((Below.refl _ _).drew) (fun hHeld => ?_)
  refine tkY 0 65 ?hv1 rfl ?hyy1 (by assumption) ?hrest1
  case hyy1 => intro w hSw; (try dsimp only at hSw); have hct := HCT.out _ hSw; go_simp <;> with_reducible rfl
  simp only [Act.put, List.setIfInBounds_toArray, List.set_cons_zero, List.set_cons_succ]
  refine tkY 1 66 ?hv2 rfl ?hyy2 (by assumption) ?hrest2
  case hyy2 => intro w hSw; (try dsimp only at hSw); have hcx := HCX.out _ hSw; go_simp <;> with_reducible rfl
  simp only [Act.put, List.setIfInBounds_toArray, List.set_cons_zero, List.set_cons_succ]
  refine tkY 2 67 ?hv3 rfl ?hyy3 (by assumption) ?hrest3
  case hyy3 => intro w hSw; (try dsimp only at hSw); go_simp <;> with_reducible rfl
  simp only [Act.put, List.setIfInBounds_toArray, List.set_cons_zero, List.set_cons_succ]
  refine tkY 3 68 ?hv4 rfl ?hyy4 (by assumption) ?hrest4
  case hyy4 => intro w hSw; (try dsimp only at hSw); go_simp <;> with_reducible rfl
  simp only [Act.put, List.setIfInBounds_toArray, List.set_cons_zero, List.set_cons_succ]
  refine tkY 4 69 ?hv5 rfl ?hyy5 (by assumption) ?hrest5
  case hyy5 => intro w hSw; (try dsimp only at hSw); go_simp <;> with_reducible rfl
  simp only [Act.put, List.setIfInBounds_toArray, List.set_cons_zero, List.set_cons_succ]
  refine tkY 5 70 ?hv6 rfl ?hyy6 (by assumption) ?hrest6
  case hyy6 => intro w hSw; (try dsimp only at hSw); obtain ⟨q0, q1, q2, q3, q4, q5, q6, q7, q8, q9⟩ := HCO.out _ hSw; go_simp <;> with_reducible rfl
  simp only [Act.put, List.setIfInBounds_toArray, List.set_cons_zero, List.set_cons_succ]
  refine tkY 6 71 ?hv7 rfl ?hyy7 (by assumption) ?hrest7
  case hyy7 => intro w hSw; (try dsimp only at hSw); go_simp <;> with_reducible rfl
  simp only [Act.put, List.setIfInBounds_toArray, List.set_cons_zero, List.set_cons_succ]
  refine tkY 7 72 ?hv8 rfl ?hyy8 (by assumption) ?hrest8
  case hyy8 => intro w hSw; (try dsimp only at hSw); go_simp <;> with_reducible rfl
  simp only [Act.put, List.setIfInBounds_toArray, List.set_cons_zero, List.set_cons_succ]
  refine tkY 8 73 ?hv9 rfl ?hyy9 (by assumption) ?hrest9
  case hyy9 => intro w hSw; (try dsimp only at hSw); go_simp <;> with_reducible rfl
  simp only [Act.put, List.setIfInBounds_toArray, List.set_cons_zero, List.set_cons_succ]
  refine tkY 9 74 ?hv10 rfl ?hyy10 (by assumption) ?hrest10
  case hyy10 => intro w hSw; (try dsimp only at hSw); go_simp <;> with_reducible rfl
  simp only [Act.put, List.setIfInBounds_toArray, List.set_cons_zero, List.set_cons_succ]
  refine wpAnyH_ready (rs := [10]) (by kernel_rfl) (by simp) ?_
  refine AllReadyH.cons rfl (fun K hK => ?_) AllReadyH.nil
  go_simp
  go_wp2_with fail
  refine (HRX.out _ x oi (cn + (k : Int)) (HB.out.trans (hHeld.mono HB.out.size)) (HXA.out.step hHeld).ok HOI.out).mono ?_
  rintro e v1 ⟨rfl, hb_⟩
  have HP_v1 := hide_ (hHeld.trans (hb_.mono hHeld.size))
  clear hb_
  refine hK.out _ _ (HP_v1.out) (fun hHeld => ?_)
  clear hK K hHeld
  refine wpAnyH_more (S' := fun u => Below v1.heap.size v1 u) (fun u hu => HP_v1.out.trans (hu.mono HP_v1.out.size)) _ _ _ _ ?_
  have hHeld := Below.refl v1.heap.size v1
  refine tkY 11 76 ?hv11 rfl ?hyy11 (by assumption) ?hrest11
  case hyy11 => intro w hSw; (try dsimp only at hSw); go_simp <;> with_reducible rfl
  simp only [Act.put, List.setIfInBounds_toArray, List.set_cons_zero, List.set_cons_succ]
  refine wpAnyH_done (by kernel_rfl) ?_ _
  obtain ⟨qr, hqr⟩ : ∃ q, rightB ts tv t.l x.p oi (cn + (k : Int)) = q := ⟨_, rfl⟩
  have HQK := hide_ hqr
  rw [hqr]
  clear hqr
  cases qr with
  | false =>
   have HX1 := hide_ (HX.out.below HP_v1.out)
   have HXA1 := hide_ (HXA.out.step HP_v1.out)
   have HT1 := hide_ (HT.out.below HP_v1.out)
   have HO1 := hide_ (HO.out.below HP_v1.out)
   have HB1 := hide_ (HB.out.trans (HP_v1.out.mono HB.out.size))
   go_wp2_with fail
   go_roundw
   case rel => exact ⟨k + 1, x, by omega, by go_num, HX1, HXA1, HGX, HSX, HT1, HO1, HB1⟩
   case measure => simp [intOf]; omega
  | true =>
  have HA := HA2
  clear HA2
  go_upto_region 11 with fail
  go_cut [15, 17] (fun pb pe wx => ∃ (y : RegM) (b15 : Nat), pb = .pointer (some ⟨b15, 0, none⟩) ∧ pe = .int .i64 0 ∧ wr.heap.size ≤ b15 ∧ Hid (BoxAt wx b15 #[.int .u8 y.ki, .int .u64 y.inc, .int .i64 y.st, .slice y.va.A y.va.l.length y.va.c, .slice y.dn.A y.dn.l.length y.dn.c, .slice y.ou.A y.ou.l.length y.ou.c, .int .u64 y.la, .slice y.ma.A y.ma.l.length y.ma.c] 31) ∧ Hid (y.p = (applyG ts tv t.l x.p oi (cn + (k : Int))).1) ∧ Hid (Fresh wx wr.heap.size y) ∧ Hid (Below wr.heap.size wr wx))
  case first =>
   refine wp_region_held_drew (S := fun u => Below wr.heap.size wr u) (by kernel_rfl) (HP_v1.out.drew) (fun hHeld => ?_)
   generalize v1.drew = u0 at hHeld ⊢
   refine tkY 0 78 ?hv12 rfl ?hyy12 (by assumption) ?hrest12
   case hyy12 => intro w hSw; (try dsimp only at hSw); have hct := HCT.out _ hSw; go_simp <;> with_reducible rfl
   simp only [Act.put, List.setIfInBounds_toArray, List.set_cons_zero, List.set_cons_succ]
   refine tkY 1 79 ?hv13 rfl ?hyy13 (by assumption) ?hrest13
   case hyy13 => intro w hSw; (try dsimp only at hSw); have hcx := HCX.out _ hSw; go_simp <;> with_reducible rfl
   simp only [Act.put, List.setIfInBounds_toArray, List.set_cons_zero, List.set_cons_succ]
   refine tkY 2 80 ?hv14 rfl ?hyy14 (by assumption) ?hrest14
   case hyy14 => intro w hSw; (try dsimp only at hSw); go_simp <;> with_reducible rfl
   simp only [Act.put, List.setIfInBounds_toArray, List.set_cons_zero, List.set_cons_succ]
   refine tkY 3 81 ?hv15 rfl ?hyy15 (by assumption) ?hrest15
   case hyy15 => intro w hSw; (try dsimp only at hSw); go_simp <;> with_reducible rfl
   simp only [Act.put, List.setIfInBounds_toArray, List.set_cons_zero, List.set_cons_succ]
   refine tkY 4 82 ?hv16 rfl ?hyy16 (by assumption) ?hrest16
   case hyy16 => intro w hSw; (try dsimp only at hSw); go_simp <;> with_reducible rfl
   simp only [Act.put, List.setIfInBounds_toArray, List.set_cons_zero, List.set_cons_succ]
   refine tkY 5 83 ?hv17 rfl ?hyy17 (by assumption) ?hrest17
   case hyy17 => intro w hSw; (try dsimp only at hSw); obtain ⟨q0, q1, q2, q3, q4, q5, q6, q7, q8, q9⟩ := HCO.out _ hSw; go_simp <;> with_reducible rfl
   simp only [Act.put, List.setIfInBounds_toArray, List.set_cons_zero, List.set_cons_succ]
   refine tkY 6 84 ?hv18 rfl ?hyy18 (by assumption) ?hrest18
   case hyy18 => intro w hSw; (try dsimp only at hSw); go_simp <;> with_reducible rfl
   simp only [Act.put, List.setIfInBounds_toArray, List.set_cons_zero, List.set_cons_succ]
   refine tkY 7 85 ?hv19 rfl ?hyy19 (by assumption) ?hrest19
   case hyy19 => intro w hSw; (try dsimp only at hSw); go_simp <;> with_reducible rfl
   simp only [Act.put, List.setIfInBounds_toArray, List.set_cons_zero, List.set_cons_succ]
   refine tkY 8 86 ?hv20 rfl ?hyy20 (by assumption) ?hrest20
   case hyy20 => intro w hSw; (try dsimp only at hSw); go_simp <;> with_reducible rfl
   simp only [Act.put, List.setIfInBounds_toArray, List.set_cons_zero, List.set_cons_succ]
   refine tkY 9 87 ?hv21 rfl ?hyy21 (by assumption) ?hrest21
   case hyy21 => intro w hSw; (try dsimp only at hSw); go_simp <;> with_reducible rfl
   simp only [Act.put, List.setIfInBounds_toArray, List.set_cons_zero, List.set_cons_succ]
   refine wpAnyH_ready (rs := [10, 15, 16]) (by kernel_rfl) (by simp) ?_
   refine AllReadyH.cons rfl (fun K hK => ?_) (AllReadyH.cons rfl (fun K hK => ?_) (AllReadyH.cons rfl (fun K hK => ?_) AllReadyH.nil))
   ·go_simp
    go_wp2_with fail
    refine (HAX.out _ x oi (cn + (k : Int)) (HB.out.trans (hHeld.mono HB.out.size)) (HXA.out.step hHeld).ok HOI.out HCK.out HQK.out).mono ?_
    rintro e u1 ⟨y, p, rfl, hyp, hpp, hfr, hpn, hpv, hb_⟩
    have HPC := hide_ (hHeld.trans (hb_.mono hHeld.size))
    have HYP := hide_ hyp
    have HF := hide_ (hfr.less hHeld.size)
    clear hyp hpp hfr hpn hpv hb_
    simp only [RegM.v, RepM.v, Sl.v]
    refine hK.out _ _ HPC.out (fun hHeld => ?_)
    clear hK K
    refine tkY 11 77 ?hv22 rfl ?hyy22 (by assumption) ?hrest22
    case hyy22 => intro w hSw; (try dsimp only at hSw); go_simp <;> with_reducible rfl
    simp only [Act.put, List.setIfInBounds_toArray, List.set_cons_zero, List.set_cons_succ]
    refine tkY 12 89 ?hv23 rfl ?hyy23 (by assumption) ?hrest23
    case hyy23 => intro w hSw; (try dsimp only at hSw); go_simp <;> with_reducible rfl
    simp only [Act.put, List.setIfInBounds_toArray, List.set_cons_zero, List.set_cons_succ]
    refine tkY 13 90 ?hv24 rfl ?hyy24 (by assumption) ?hrest24
    case hyy24 => intro w hSw; (try dsimp only at hSw); go_simp <;> with_reducible rfl
    simp only [Act.put, List.setIfInBounds_toArray, List.set_cons_zero, List.set_cons_succ]
    refine tkY 14 91 ?hv25 rfl ?hyy25 (by assumption) ?hrest25
    case hyy25 => intro w hSw; (try dsimp only at hSw); go_simp <;> with_reducible rfl
    simp only [Act.put, List.setIfInBounds_toArray, List.set_cons_zero, List.set_cons_succ]
    refine wpAnyH_ready (rs := [15, 16]) (by kernel_rfl) (by simp) ?_
    refine AllReadyH.cons rfl (fun K hK => ?_) (AllReadyH.cons rfl (fun K hK => ?_) AllReadyH.nil)
    ·go_simp
     obtain ⟨u2, hu⟩ : ∃ v, u1.alloc (.cells #[.int .u8 0, .int .u64 0, .int .i64 0, .slice none 0 0, .slice none 0 0, .slice none 0 0, .int .u64 0, .slice none 0 0] 31) = v := ⟨_, rfl⟩
     rw [hu]
     have hbl : Below u1.heap.size u1 u2 := hu ▸ (Below.refl _ _).alloc (Nat.le_refl _) _
     have HPA := hide_ (hHeld.trans (hbl.mono hHeld.size))
     have HBA := hide_ (show BoxAt u2 u1.heap.size #[.int .u8 0, .int .u64 0, .int .i64 0, .slice none 0 0, .slice none 0 0, .slice none 0 0, .int .u64 0, .slice none 0 0] 31 from hu ▸ BoxAt.new u1 _ _)
     have hgA : wr.heap.size ≤ u1.heap.size := hHeld.size
     replace HF := hide_ (HF.out.below hbl)
     clear hbl hu
     obtain ⟨bA, hbA⟩ : ∃ b, u1.heap.size = b := ⟨_, rfl⟩
     rw [hbA] at HBA hgA ⊢
     clear hbA
     refine hK.out _ _ HPA.out (fun hHeld => ?_)
     clear hK K
     refine wpAnyH_ready (rs := [16]) (by kernel_rfl) (by simp) ?_
     refine AllReadyH.cons rfl (fun K hK => ?_) AllReadyH.nil
     go_simp
     obtain ⟨u3, hu⟩ : ∃ v, u2.alloc (.cells #[.int .i64 0, .int .u64 0, .int .i64 0, .slice none 0 0] 38) = v := ⟨_, rfl⟩
     rw [hu]
     have hbl : Below u2.heap.size u2 u3 := hu ▸ (Below.refl _ _).alloc (Nat.le_refl _) _
     have HPA := hide_ (hHeld.trans (hbl.mono hHeld.size))
     have HBB := hide_ (show BoxAt u3 u2.heap.size #[.int .i64 0, .int .u64 0, .int .i64 0, .slice none 0 0] 38 from hu ▸ BoxAt.new u2 _ _)
     have hgB : wr.heap.size ≤ u2.heap.size := hHeld.size
     have hlo := HBA.out.lt
     replace HBA := hide_ (HBA.out.below hbl)
     replace HF := hide_ (HF.out.below hbl)
     clear hbl hu
     obtain ⟨bB, hbB⟩ : ∃ b, u2.heap.size = b := ⟨_, rfl⟩
     rw [hbB] at HBB hgB hlo ⊢
     have hne : bA ≠ bB := by omega
     clear hbB
     refine hK.out _ _ HPA.out (fun hHeld => ?_)
     clear hK K
     have q0 := (HBA.out.cell 0).trans (show _ = some (.int .u8 0) from rfl)
     have q1 := (HBA.out.cell 1).trans (show _ = some (.int .u64 0) from rfl)
     have q2 := (HBA.out.cell 2).trans (show _ = some (.int .i64 0) from rfl)
     have q3 := (HBA.out.cell 3).trans (show _ = some (.slice none 0 0) from rfl)
     have q4 := (HBA.out.cell 4).trans (show _ = some (.slice none 0 0) from rfl)
     have q5 := (HBA.out.cell 5).trans (show _ = some (.slice none 0 0) from rfl)
     have q6 := (HBA.out.cell 6).trans (show _ = some (.int .u64 0) from rfl)
     have q7 := (HBA.out.cell 7).trans (show _ = some (.slice none 0 0) from rfl)
     have f0 := free7 HBA.out 0
     have f1 := free7 HBA.out 1
     have f2 := free7 HBA.out 2
     have f3 := free7 HBA.out 3
     have f4 := free7 HBA.out 4
     have f5 := free7 HBA.out 5
     have f6 := free7 HBA.out 6
     have f7 := free7 HBA.out 7
     have hla := HBA.out.lt
     refine wpAnyH_ready (rs := [17]) (by kernel_rfl) (by simp) ?_
     refine AllReadyH.cons rfl (fun K hK => ?_) AllReadyH.nil
     go_simp
     obtain ⟨us, hus⟩ : ∃ us, ((((((((u3.setCell ⟨bA, 0, none⟩ (.int .u8 y.ki)).setCell ⟨bA, 1, none⟩ (.int .u64 y.inc)).setCell ⟨bA, 2, none⟩ (.int .i64 y.st)).setCell ⟨bA, 3, none⟩ (.slice y.va.A y.va.l.length y.va.c)).setCell ⟨bA, 4, none⟩ (.slice y.dn.A y.dn.l.length y.dn.c)).setCell ⟨bA, 5, none⟩ (.slice y.ou.A y.ou.l.length y.ou.c)).setCell ⟨bA, 6, none⟩ (.int .u64 y.la)).setCell ⟨bA, 7, none⟩ (.slice y.ma.A y.ma.l.length y.ma.c)) = us := ⟨_, rfl⟩
     rw [hus]
     have HGS := hide_ (show u3.grownBy us (some bA) from hus ▸ (grown_set (grown_set (grown_set (grown_set (grown_set (grown_set (grown_set (grown_set (World.grownBy.refl u3 (some bA)) 0 (.int .u8 y.ki)) 1 (.int .u64 y.inc)) 2 (.int .i64 y.st)) 3 (.slice y.va.A y.va.l.length y.va.c)) 4 (.slice y.dn.A y.dn.l.length y.dn.c)) 5 (.slice y.ou.A y.ou.l.length y.ou.c)) 6 (.int .u64 y.la)) 7 (.slice y.ma.A y.ma.l.length y.ma.c)))
     have HBS := hide_ (show BoxAt us bA #[.int .u8 y.ki, .int .u64 y.inc, .int .i64 y.st, .slice y.va.A y.va.l.length y.va.c, .slice y.dn.A y.dn.l.length y.dn.c, .slice y.ou.A y.ou.l.length y.ou.c, .int .u64 y.la, .slice y.ma.A y.ma.l.length y.ma.c] 31 from by
      have h := (heap_set 7 (.slice y.ma.A y.ma.l.length y.ma.c) (heap_set 6 (.int .u64 y.la) (heap_set 5 (.slice y.ou.A y.ou.l.length y.ou.c) (heap_set 4 (.slice y.dn.A y.dn.l.length y.dn.c) (heap_set 3 (.slice y.va.A y.va.l.length y.va.c) (heap_set 2 (.int .i64 y.st) (heap_set 1 (.int .u64 y.inc) (heap_set 0 (.int .u8 y.ki) HBA.out))))))))
      rw [hus] at h
      simp only [List.setIfInBounds_toArray, List.set_cons_zero, List.set_cons_succ] at h
      exact h)
     have HPS := hide_ (show Below wr.heap.size wr us from hus ▸ ((((((((hHeld.setCell (hgA) (.int .u8 y.ki)).setCell (hgA) (.int .u64 y.inc)).setCell (hgA) (.int .i64 y.st)).setCell (hgA) (.slice y.va.A y.va.l.length y.va.c)).setCell (hgA) (.slice y.dn.A y.dn.l.length y.dn.c)).setCell (hgA) (.slice y.ou.A y.ou.l.length y.ou.c)).setCell (hgA) (.int .u64 y.la)).setCell (hgA) (.slice y.ma.A y.ma.l.length y.ma.c)))
     have HFS := hide_ (show Fresh us wr.heap.size y from HF.out.boxed7 HBA.out (by decide) (by decide) (by decide) (by decide) HGS.out)
     have HBC := hide_ (show BoxAt us bB #[.int .i64 0, .int .u64 0, .int .i64 0, .slice none 0 0] 38 from box_far7 HGS.out HBB.out hne)
     clear hus q0 f0 q1 f1 q2 f2 q3 f3 q4 f4 q5 f5 q6 f6 q7 f7 hla HGS HBA HBB HF
     refine hK.out _ _ HPS.out (fun hHeld => ?_)
     clear hK K
     have q0 := (HBC.out.cell 0).trans (show _ = some (.int .i64 0) from rfl)
     have q1 := (HBC.out.cell 1).trans (show _ = some (.int .u64 0) from rfl)
     have q2 := (HBC.out.cell 2).trans (show _ = some (.int .i64 0) from rfl)
     have q3 := (HBC.out.cell 3).trans (show _ = some (.slice none 0 0) from rfl)
     have f0 := free7 HBC.out 0
     have f1 := free7 HBC.out 1
     have f2 := free7 HBC.out 2
     have f3 := free7 HBC.out 3
     have hlb := HBC.out.lt
     refine wpAnyH_ready (rs := [18]) (by kernel_rfl) (by simp) ?_
     refine AllReadyH.cons rfl (fun K hK => ?_) AllReadyH.nil
     go_simp
     obtain ⟨ut, hut⟩ : ∃ ut, ((((us.setCell ⟨bB, 0, none⟩ (.int .i64 p.er)).setCell ⟨bB, 1, none⟩ (.int .u64 p.inc)).setCell ⟨bB, 2, none⟩ (.int .i64 p.st)).setCell ⟨bB, 3, none⟩ (.slice p.va.A p.va.l.length p.va.c)) = ut := ⟨_, rfl⟩
     rw [hut]
     have HGT := hide_ (show us.grownBy ut (some bB) from hut ▸ (grown_set (grown_set (grown_set (grown_set (World.grownBy.refl us (some bB)) 0 (.int .i64 p.er)) 1 (.int .u64 p.inc)) 2 (.int .i64 p.st)) 3 (.slice p.va.A p.va.l.length p.va.c)))
     have HPT := hide_ (show Below wr.heap.size wr ut from hut ▸ ((((hHeld.setCell (hgB) (.int .i64 p.er)).setCell (hgB) (.int .u64 p.inc)).setCell (hgB) (.int .i64 p.st)).setCell (hgB) (.slice p.va.A p.va.l.length p.va.c)))
     have HFT := hide_ (show Fresh ut wr.heap.size y from HFS.out.boxed7 HBC.out (by decide) (by decide) (by decide) (by decide) HGT.out)
     have HBT := hide_ (show BoxAt ut bA #[.int .u8 y.ki, .int .u64 y.inc, .int .i64 y.st, .slice y.va.A y.va.l.length y.va.c, .slice y.dn.A y.dn.l.length y.dn.c, .slice y.ou.A y.ou.l.length y.ou.c, .int .u64 y.la, .slice y.ma.A y.ma.l.length y.ma.c] 31 from box_far7 HGT.out HBS.out (Ne.symm hne))
     clear hut q0 f0 q1 f1 q2 f2 q3 f3 hlb HGT
     refine hK.out _ _ HPT.out (fun hHeld => ?_)
     clear hK K
     refine tkY 19 17 ?hv26 rfl ?hyy26 (by assumption) ?hrest26
     case hyy26 => intro w hSw; (try dsimp only at hSw); go_simp <;> with_reducible rfl
     simp only [Act.put, List.setIfInBounds_toArray, List.set_cons_zero, List.set_cons_succ]
     refine wpAnyH_done (by kernel_rfl) ?_ _
     go_wp2_with fail
     go_meet
     exact ⟨y, bA, rfl, rfl, hgA, HBT, HYP, HFT, HPT⟩
    ·go_simp
     obtain ⟨u4, hu⟩ : ∃ v, u1.alloc (.cells #[.int .i64 0, .int .u64 0, .int .i64 0, .slice none 0 0] 38) = v := ⟨_, rfl⟩
     rw [hu]
     have hbl : Below u1.heap.size u1 u4 := hu ▸ (Below.refl _ _).alloc (Nat.le_refl _) _
     have HPA := hide_ (hHeld.trans (hbl.mono hHeld.size))
     have HBB := hide_ (show BoxAt u4 u1.heap.size #[.int .i64 0, .int .u64 0, .int .i64 0, .slice none 0 0] 38 from hu ▸ BoxAt.new u1 _ _)
     have hgB : wr.heap.size ≤ u1.heap.size := hHeld.size
     replace HF := hide_ (HF.out.below hbl)
     clear hbl hu
     obtain ⟨bB, hbB⟩ : ∃ b, u1.heap.size = b := ⟨_, rfl⟩
     rw [hbB] at HBB hgB ⊢
     clear hbB
     refine hK.out _ _ HPA.out (fun hHeld => ?_)
     clear hK K
     refine wpAnyH_ready (rs := [15]) (by kernel_rfl) (by simp) ?_
     refine AllReadyH.cons rfl (fun K hK => ?_) AllReadyH.nil
     go_simp
     obtain ⟨u5, hu⟩ : ∃ v, u4.alloc (.cells #[.int .u8 0, .int .u64 0, .int .i64 0, .slice none 0 0, .slice none 0 0, .slice none 0 0, .int .u64 0, .slice none 0 0] 31) = v := ⟨_, rfl⟩
     rw [hu]
     have hbl : Below u4.heap.size u4 u5 := hu ▸ (Below.refl _ _).alloc (Nat.le_refl _) _
     have HPA := hide_ (hHeld.trans (hbl.mono hHeld.size))
     have HBA := hide_ (show BoxAt u5 u4.heap.size #[.int .u8 0, .int .u64 0, .int .i64 0, .slice none 0 0, .slice none 0 0, .slice none 0 0, .int .u64 0, .slice none 0 0] 31 from hu ▸ BoxAt.new u4 _ _)
     have hgA : wr.heap.size ≤ u4.heap.size := hHeld.size
     have hlo := HBB.out.lt
     replace HBB := hide_ (HBB.out.below hbl)
     replace HF := hide_ (HF.out.below hbl)
     clear hbl hu
     obtain ⟨bA, hbA⟩ : ∃ b, u4.heap.size = b := ⟨_, rfl⟩
     rw [hbA] at HBA hgA hlo ⊢
     have hne : bA ≠ bB := by omega
     clear hbA
     refine hK.out _ _ HPA.out (fun hHeld => ?_)
     clear hK K
     have q0 := (HBA.out.cell 0).trans (show _ = some (.int .u8 0) from rfl)
     have q1 := (HBA.out.cell 1).trans (show _ = some (.int .u64 0) from rfl)
     have q2 := (HBA.out.cell 2).trans (show _ = some (.int .i64 0) from rfl)
     have q3 := (HBA.out.cell 3).trans (show _ = some (.slice none 0 0) from rfl)
     have q4 := (HBA.out.cell 4).trans (show _ = some (.slice none 0 0) from rfl)
     have q5 := (HBA.out.cell 5).trans (show _ = some (.slice none 0 0) from rfl)
     have q6 := (HBA.out.cell 6).trans (show _ = some (.int .u64 0) from rfl)
     have q7 := (HBA.out.cell 7).trans (show _ = some (.slice none 0 0) from rfl)
     have f0 := free7 HBA.out 0
     have f1 := free7 HBA.out 1
     have f2 := free7 HBA.out 2
     have f3 := free7 HBA.out 3
     have f4 := free7 HBA.out 4
     have f5 := free7 HBA.out 5
     have f6 := free7 HBA.out 6
     have f7 := free7 HBA.out 7
     have hla := HBA.out.lt
     refine wpAnyH_ready (rs := [17]) (by kernel_rfl) (by simp) ?_
     refine AllReadyH.cons rfl (fun K hK => ?_) AllReadyH.nil
     go_simp
     obtain ⟨us, hus⟩ : ∃ us, ((((((((u5.setCell ⟨bA, 0, none⟩ (.int .u8 y.ki)).setCell ⟨bA, 1, none⟩ (.int .u64 y.inc)).setCell ⟨bA, 2, none⟩ (.int .i64 y.st)).setCell ⟨bA, 3, none⟩ (.slice y.va.A y.va.l.length y.va.c)).setCell ⟨bA, 4, none⟩ (.slice y.dn.A y.dn.l.length y.dn.c)).setCell ⟨bA, 5, none⟩ (.slice y.ou.A y.ou.l.length y.ou.c)).setCell ⟨bA, 6, none⟩ (.int .u64 y.la)).setCell ⟨bA, 7, none⟩ (.slice y.ma.A y.ma.l.length y.ma.c)) = us := ⟨_, rfl⟩
     rw [hus]
     have HGS := hide_ (show u5.grownBy us (some bA) from hus ▸ (grown_set (grown_set (grown_set (grown_set (grown_set (grown_set (grown_set (grown_set (World.grownBy.refl u5 (some bA)) 0 (.int .u8 y.ki)) 1 (.int .u64 y.inc)) 2 (.int .i64 y.st)) 3 (.slice y.va.A y.va.l.length y.va.c)) 4 (.slice y.dn.A y.dn.l.length y.dn.c)) 5 (.slice y.ou.A y.ou.l.length y.ou.c)) 6 (.int .u64 y.la)) 7 (.slice y.ma.A y.ma.l.length y.ma.c)))
     have HBS := hide_ (show BoxAt us bA #[.int .u8 y.ki, .int .u64 y.inc, .int .i64 y.st, .slice y.va.A y.va.l.length y.va.c, .slice y.dn.A y.dn.l.length y.dn.c, .slice y.ou.A y.ou.l.length y.ou.c, .int .u64 y.la, .slice y.ma.A y.ma.l.length y.ma.c] 31 from by
      have h := (heap_set 7 (.slice y.ma.A y.ma.l.length y.ma.c) (heap_set 6 (.int .u64 y.la) (heap_set 5 (.slice y.ou.A y.ou.l.length y.ou.c) (heap_set 4 (.slice y.dn.A y.dn.l.length y.dn.c) (heap_set 3 (.slice y.va.A y.va.l.length y.va.c) (heap_set 2 (.int .i64 y.st) (heap_set 1 (.int .u64 y.inc) (heap_set 0 (.int .u8 y.ki) HBA.out))))))))
      rw [hus] at h
      simp only [List.setIfInBounds_toArray, List.set_cons_zero, List.set_cons_succ] at h
      exact h)
     have HPS := hide_ (show Below wr.heap.size wr us from hus ▸ ((((((((hHeld.setCell (hgA) (.int .u8 y.ki)).setCell (hgA) (.int .u64 y.inc)).setCell (hgA) (.int .i64 y.st)).setCell (hgA) (.slice y.va.A y.va.l.length y.va.c)).setCell (hgA) (.slice y.dn.A y.dn.l.length y.dn.c)).setCell (hgA) (.slice y.ou.A y.ou.l.length y.ou.c)).setCell (hgA) (.int .u64 y.la)).setCell (hgA) (.slice y.ma.A y.ma.l.length y.ma.c)))
     have HFS := hide_ (show Fresh us wr.heap.size y from HF.out.boxed7 HBA.out (by decide) (by decide) (by decide) (by decide) HGS.out)
     have HBC := hide_ (show BoxAt us bB #[.int .i64 0, .int .u64 0, .int .i64 0, .slice none 0 0] 38 from box_far7 HGS.out HBB.out hne)
     clear hus q0 f0 q1 f1 q2 f2 q3 f3 q4 f4 q5 f5 q6 f6 q7 f7 hla HGS HBA HBB HF
     refine hK.out _ _ HPS.out (fun hHeld => ?_)
     clear hK K
     have q0 := (HBC.out.cell 0).trans (show _ = some (.int .i64 0) from rfl)
     have q1 := (HBC.out.cell 1).trans (show _ = some (.int .u64 0) from rfl)
     have q2 := (HBC.out.cell 2).trans (show _ = some (.int .i64 0) from rfl)
     have q3 := (HBC.out.cell 3).trans (show _ = some (.slice none 0 0) from rfl)
     have f0 := free7 HBC.out 0
     have f1 := free7 HBC.out 1
     have f2 := free7 HBC.out 2
     have f3 := free7 HBC.out 3
     have hlb := HBC.out.lt
     refine wpAnyH_ready (rs := [18]) (by kernel_rfl) (by simp) ?_
     refine AllReadyH.cons rfl (fun K hK => ?_) AllReadyH.nil
     go_simp
     obtain ⟨ut, hut⟩ : ∃ ut, ((((us.setCell ⟨bB, 0, none⟩ (.int .i64 p.er)).setCell ⟨bB, 1, none⟩ (.int .u64 p.inc)).setCell ⟨bB, 2, none⟩ (.int .i64 p.st)).setCell ⟨bB, 3, none⟩ (.slice p.va.A p.va.l.length p.va.c)) = ut := ⟨_, rfl⟩
     rw [hut]
     have HGT := hide_ (show us.grownBy ut (some bB) from hut ▸ (grown_set (grown_set (grown_set (grown_set (World.grownBy.refl us (some bB)) 0 (.int .i64 p.er)) 1 (.int .u64 p.inc)) 2 (.int .i64 p.st)) 3 (.slice p.va.A p.va.l.length p.va.c)))
     have HPT := hide_ (show Below wr.heap.size wr ut from hut ▸ ((((hHeld.setCell (hgB) (.int .i64 p.er)).setCell (hgB) (.int .u64 p.inc)).setCell (hgB) (.int .i64 p.st)).setCell (hgB) (.slice p.va.A p.va.l.length p.va.c)))
     have HFT := hide_ (show Fresh ut wr.heap.size y from HFS.out.boxed7 HBC.out (by decide) (by decide) (by decide) (by decide) HGT.out)
     have HBT := hide_ (show BoxAt ut bA #[.int .u8 y.ki, .int .u64 y.inc, .int .i64 y.st, .slice y.va.A y.va.l.length y.va.c, .slice y.dn.A y.dn.l.length y.dn.c, .slice y.ou.A y.ou.l.length y.ou.c, .int .u64 y.la, .slice y.ma.A y.ma.l.length y.ma.c] 31 from box_far7 HGT.out HBS.out (Ne.symm hne))
     clear hut q0 f0 q1 f1 q2 f2 q3 f3 hlb HGT
     refine hK.out _ _ HPT.out (fun hHeld => ?_)
     clear hK K
     refine tkY 19 17 ?hv27 rfl ?hyy27 (by assumption) ?hrest27
     case hyy27 => intro w hSw; (try dsimp only at hSw); go_simp <;> with_reducible rfl
     simp only [Act.put, List.setIfInBounds_toArray, List.set_cons_zero, List.set_cons_succ]
     refine wpAnyH_done (by kernel_rfl) ?_ _
     go_wp2_with fail
     go_meet
     exact ⟨y, bA, rfl, rfl, hgA, HBT, HYP, HFT, HPT⟩
   ·go_simp
    obtain ⟨u6, hu⟩ : ∃ v, u0.alloc (.cells #[.int .u8 0, .int .u64 0, .int .i64 0, .slice none 0 0, .slice none 0 0, .slice none 0 0, .int .u64 0, .slice none 0 0] 31) = v := ⟨_, rfl⟩
    rw [hu]
    have hbl : Below u0.heap.size u0 u6 := hu ▸ (Below.refl _ _).alloc (Nat.le_refl _) _
    have HPA := hide_ (hHeld.trans (hbl.mono hHeld.size))
    have HBA := hide_ (show BoxAt u6 u0.heap.size #[.int .u8 0, .int .u64 0, .int .i64 0, .slice none 0 0, .slice none 0 0, .slice none 0 0, .int .u64 0, .slice none 0 0] 31 from hu ▸ BoxAt.new u0 _ _)
    have hgA : wr.heap.size ≤ u0.heap.size := hHeld.size
    clear hbl hu
    obtain ⟨bA, hbA⟩ : ∃ b, u0.heap.size = b := ⟨_, rfl⟩
    rw [hbA] at HBA hgA ⊢
    clear hbA
    refine hK.out _ _ HPA.out (fun hHeld => ?_)
    clear hK K
    refine wpAnyH_ready (rs := [10, 16]) (by kernel_rfl) (by simp) ?_
    refine AllReadyH.cons rfl (fun K hK => ?_) (AllReadyH.cons rfl (fun K hK => ?_) AllReadyH.nil)
    ·go_simp
     go_wp2_with fail
     refine (HAX.out _ x oi (cn + (k : Int)) (HB.out.trans (hHeld.mono HB.out.size)) (HXA.out.step hHeld).ok HOI.out HCK.out HQK.out).mono ?_
     rintro e u7 ⟨y, p, rfl, hyp, hpp, hfr, hpn, hpv, hb_⟩
     have HPC := hide_ (hHeld.trans (hb_.mono hHeld.size))
     have HYP := hide_ hyp
     have HF := hide_ (hfr.less hHeld.size)
     replace HBA := hide_ (HBA.out.below hb_)
     clear hyp hpp hfr hpn hpv hb_
     simp only [RegM.v, RepM.v, Sl.v]
     refine hK.out _ _ HPC.out (fun hHeld => ?_)
     clear hK K
     refine tkY 11 77 ?hv28 rfl ?hyy28 (by assumption) ?hrest28
     case hyy28 => intro w hSw; (try dsimp only at hSw); go_simp <;> with_reducible rfl
     simp only [Act.put, List.setIfInBounds_toArray, List.set_cons_zero, List.set_cons_succ]
     refine tkY 12 89 ?hv29 rfl ?hyy29 (by assumption) ?hrest29
     case hyy29 => intro w hSw; (try dsimp only at hSw); go_simp <;> with_reducible rfl
     simp only [Act.put, List.setIfInBounds_toArray, List.set_cons_zero, List.set_cons_succ]
     refine tkY 13 90 ?hv30 rfl ?hyy30 (by assumption) ?hrest30
     case hyy30 => intro w hSw; (try dsimp only at hSw); go_simp <;> with_reducible rfl
     simp only [Act.put, List.setIfInBounds_toArray, List.set_cons_zero, List.set_cons_succ]
     refine tkY 14 91 ?hv31 rfl ?hyy31 (by assumption) ?hrest31
     case hyy31 => intro w hSw; (try dsimp only at hSw); go_simp <;> with_reducible rfl
     simp only [Act.put, List.setIfInBounds_toArray, List.set_cons_zero, List.set_cons_succ]
     refine wpAnyH_ready (rs := [16]) (by kernel_rfl) (by simp) ?_
     refine AllReadyH.cons rfl (fun K hK => ?_) AllReadyH.nil
     go_simp
     obtain ⟨u8, hu⟩ : ∃ v, u7.alloc (.cells #[.int .i64 0, .int .u64 0, .int .i64 0, .slice none 0 0] 38) = v := ⟨_, rfl⟩
     rw [hu]
     have hbl : Below u7.heap.size u7 u8 := hu ▸ (Below.refl _ _).alloc (Nat.le_refl _) _
     have HPA := hide_ (hHeld.trans (hbl.mono hHeld.size))
     have HBB := hide_ (show BoxAt u8 u7.heap.size #[.int .i64 0, .int .u64 0, .int .i64 0, .slice none 0 0] 38 from hu ▸ BoxAt.new u7 _ _)
     have hgB : wr.heap.size ≤ u7.heap.size := hHeld.size
     have hlo := HBA.out.lt
     replace HBA := hide_ (HBA.out.below hbl)
     replace HF := hide_ (HF.out.below hbl)
     clear hbl hu
     obtain ⟨bB, hbB⟩ : ∃ b, u7.heap.size = b := ⟨_, rfl⟩
     rw [hbB] at HBB hgB hlo ⊢
     have hne : bA ≠ bB := by omega
     clear hbB
     refine hK.out _ _ HPA.out (fun hHeld => ?_)
     clear hK K
     have q0 := (HBA.out.cell 0).trans (show _ = some (.int .u8 0) from rfl)
     have q1 := (HBA.out.cell 1).trans (show _ = some (.int .u64 0) from rfl)
     have q2 := (HBA.out.cell 2).trans (show _ = some (.int .i64 0) from rfl)
     have q3 := (HBA.out.cell 3).trans (show _ = some (.slice none 0 0) from rfl)
     have q4 := (HBA.out.cell 4).trans (show _ = some (.slice none 0 0) from rfl)
     have q5 := (HBA.out.cell 5).trans (show _ = some (.slice none 0 0) from rfl)
     have q6 := (HBA.out.cell 6).trans (show _ = some (.int .u64 0) from rfl)
     have q7 := (HBA.out.cell 7).trans (show _ = some (.slice none 0 0) from rfl)
     have f0 := free7 HBA.out 0
     have f1 := free7 HBA.out 1
     have f2 := free7 HBA.out 2
     have f3 := free7 HBA.out 3
     have f4 := free7 HBA.out 4
     have f5 := free7 HBA.out 5
     have f6 := free7 HBA.out 6
     have f7 := free7 HBA.out 7
     have hla := HBA.out.lt
     refine wpAnyH_ready (rs := [17]) (by kernel_rfl) (by simp) ?_
     refine AllReadyH.cons rfl (fun K hK => ?_) AllReadyH.nil
     go_simp
     obtain ⟨us, hus⟩ : ∃ us, ((((((((u8.setCell ⟨bA, 0, none⟩ (.int .u8 y.ki)).setCell ⟨bA, 1, none⟩ (.int .u64 y.inc)).setCell ⟨bA, 2, none⟩ (.int .i64 y.st)).setCell ⟨bA, 3, none⟩ (.slice y.va.A y.va.l.length y.va.c)).setCell ⟨bA, 4, none⟩ (.slice y.dn.A y.dn.l.length y.dn.c)).setCell ⟨bA, 5, none⟩ (.slice y.ou.A y.ou.l.length y.ou.c)).setCell ⟨bA, 6, none⟩ (.int .u64 y.la)).setCell ⟨bA, 7, none⟩ (.slice y.ma.A y.ma.l.length y.ma.c)) = us := ⟨_, rfl⟩
     rw [hus]
     have HGS := hide_ (show u8.grownBy us (some bA) from hus ▸ (grown_set (grown_set (grown_set (grown_set (grown_set (grown_set (grown_set (grown_set (World.grownBy.refl u8 (some bA)) 0 (.int .u8 y.ki)) 1 (.int .u64 y.inc)) 2 (.int .i64 y.st)) 3 (.slice y.va.A y.va.l.length y.va.c)) 4 (.slice y.dn.A y.dn.l.length y.dn.c)) 5 (.slice y.ou.A y.ou.l.length y.ou.c)) 6 (.int .u64 y.la)) 7 (.slice y.ma.A y.ma.l.length y.ma.c)))
     have HBS := hide_ (show BoxAt us bA #[.int .u8 y.ki, .int .u64 y.inc, .int .i64 y.st, .slice y.va.A y.va.l.length y.va.c, .slice y.dn.A y.dn.l.length y.dn.c, .slice y.ou.A y.ou.l.length y.ou.c, .int .u64 y.la, .slice y.ma.A y.ma.l.length y.ma.c] 31 from by
      have h := (heap_set 7 (.slice y.ma.A y.ma.l.length y.ma.c) (heap_set 6 (.int .u64 y.la) (heap_set 5 (.slice y.ou.A y.ou.l.length y.ou.c) (heap_set 4 (.slice y.dn.A y.dn.l.length y.dn.c) (heap_set 3 (.slice y.va.A y.va.l.length y.va.c) (heap_set 2 (.int .i64 y.st) (heap_set 1 (.int .u64 y.inc) (heap_set 0 (.int .u8 y.ki) HBA.out))))))))
      rw [hus] at h
      simp only [List.setIfInBounds_toArray, List.set_cons_zero, List.set_cons_succ] at h
      exact h)
     have HPS := hide_ (show Below wr.heap.size wr us from hus ▸ ((((((((hHeld.setCell (hgA) (.int .u8 y.ki)).setCell (hgA) (.int .u64 y.inc)).setCell (hgA) (.int .i64 y.st)).setCell (hgA) (.slice y.va.A y.va.l.length y.va.c)).setCell (hgA) (.slice y.dn.A y.dn.l.length y.dn.c)).setCell (hgA) (.slice y.ou.A y.ou.l.length y.ou.c)).setCell (hgA) (.int .u64 y.la)).setCell (hgA) (.slice y.ma.A y.ma.l.length y.ma.c)))
     have HFS := hide_ (show Fresh us wr.heap.size y from HF.out.boxed7 HBA.out (by decide) (by decide) (by decide) (by decide) HGS.out)
     have HBC := hide_ (show BoxAt us bB #[.int .i64 0, .int .u64 0, .int .i64 0, .slice none 0 0] 38 from box_far7 HGS.out HBB.out hne)
     clear hus q0 f0 q1 f1 q2 f2 q3 f3 q4 f4 q5 f5 q6 f6 q7 f7 hla HGS HBA HBB HF
     refine hK.out _ _ HPS.out (fun hHeld => ?_)
     clear hK K
     have q0 := (HBC.out.cell 0).trans (show _ = some (.int .i64 0) from rfl)
     have q1 := (HBC.out.cell 1).trans (show _ = some (.int .u64 0) from rfl)
     have q2 := (HBC.out.cell 2).trans (show _ = some (.int .i64 0) from rfl)
     have q3 := (HBC.out.cell 3).trans (show _ = some (.slice none 0 0) from rfl)
     have f0 := free7 HBC.out 0
     have f1 := free7 HBC.out 1
     have f2 := free7 HBC.out 2
     have f3 := free7 HBC.out 3
     have hlb := HBC.out.lt
     refine wpAnyH_ready (rs := [18]) (by kernel_rfl) (by simp) ?_
     refine AllReadyH.cons rfl (fun K hK => ?_) AllReadyH.nil
     go_simp
     obtain ⟨ut, hut⟩ : ∃ ut, ((((us.setCell ⟨bB, 0, none⟩ (.int .i64 p.er)).setCell ⟨bB, 1, none⟩ (.int .u64 p.inc)).setCell ⟨bB, 2, none⟩ (.int .i64 p.st)).setCell ⟨bB, 3, none⟩ (.slice p.va.A p.va.l.length p.va.c)) = ut := ⟨_, rfl⟩
     rw [hut]
     have HGT := hide_ (show us.grownBy ut (some bB) from hut ▸ (grown_set (grown_set (grown_set (grown_set (World.grownBy.refl us (some bB)) 0 (.int .i64 p.er)) 1 (.int .u64 p.inc)) 2 (.int .i64 p.st)) 3 (.slice p.va.A p.va.l.length p.va.c)))
     have HPT := hide_ (show Below wr.heap.size wr ut from hut ▸ ((((hHeld.setCell (hgB) (.int .i64 p.er)).setCell (hgB) (.int .u64 p.inc)).setCell (hgB) (.int .i64 p.st)).setCell (hgB) (.slice p.va.A p.va.l.length p.va.c)))
     have HFT := hide_ (show Fresh ut wr.heap.size y from HFS.out.boxed7 HBC.out (by decide) (by decide) (by decide) (by decide) HGT.out)
     have HBT := hide_ (show BoxAt ut bA #[.int .u8 y.ki, .int .u64 y.inc, .int .i64 y.st, .slice y.va.A y.va.l.length y.va.c, .slice y.dn.A y.dn.l.length y.dn.c, .slice y.ou.A y.ou.l.length y.ou.c, .int .u64 y.la, .slice y.ma.A y.ma.l.length y.ma.c] 31 from box_far7 HGT.out HBS.out (Ne.symm hne))
     clear hut q0 f0 q1 f1 q2 f2 q3 f3 hlb HGT
     refine hK.out _ _ HPT.out (fun hHeld => ?_)
     clear hK K
     refine tkY 19 17 ?hv32 rfl ?hyy32 (by assumption) ?hrest32
     case hyy32 => intro w hSw; (try dsimp only at hSw); go_simp <;> with_reducible rfl
     simp only [Act.put, List.setIfInBounds_toArray, List.set_cons_zero, List.set_cons_succ]
     refine wpAnyH_done (by kernel_rfl) ?_ _
     go_wp2_with fail
     go_meet
     exact ⟨y, bA, rfl, rfl, hgA, HBT, HYP, HFT, HPT⟩
    ·go_simp
     obtain ⟨u9, hu⟩ : ∃ v, u6.alloc (.cells #[.int .i64 0, .int .u64 0, .int .i64 0, .slice none 0 0] 38) = v := ⟨_, rfl⟩
     rw [hu]
     have hbl : Below u6.heap.size u6 u9 := hu ▸ (Below.refl _ _).alloc (Nat.le_refl _) _
     have HPA := hide_ (hHeld.trans (hbl.mono hHeld.size))
     have HBB := hide_ (show BoxAt u9 u6.heap.size #[.int .i64 0, .int .u64 0, .int .i64 0, .slice none 0 0] 38 from hu ▸ BoxAt.new u6 _ _)
     have hgB : wr.heap.size ≤ u6.heap.size := hHeld.size
     have hlo := HBA.out.lt
     replace HBA := hide_ (HBA.out.below hbl)
     clear hbl hu
     obtain ⟨bB, hbB⟩ : ∃ b, u6.heap.size = b := ⟨_, rfl⟩
     rw [hbB] at HBB hgB hlo ⊢
     have hne : bA ≠ bB := by omega
     clear hbB
     refine hK.out _ _ HPA.out (fun hHeld => ?_)
     clear hK K
     refine wpAnyH_ready (rs := [10]) (by kernel_rfl) (by simp) ?_
     refine AllReadyH.cons rfl (fun K hK => ?_) AllReadyH.nil
     go_simp
     go_wp2_with fail
     refine (HAX.out _ x oi (cn + (k : Int)) (HB.out.trans (hHeld.mono HB.out.size)) (HXA.out.step hHeld).ok HOI.out HCK.out HQK.out).mono ?_
     rintro e u10 ⟨y, p, rfl, hyp, hpp, hfr, hpn, hpv, hb_⟩
     have HPC := hide_ (hHeld.trans (hb_.mono hHeld.size))
     have HYP := hide_ hyp
     have HF := hide_ (hfr.less hHeld.size)
     replace HBA := hide_ (HBA.out.below hb_)
     replace HBB := hide_ (HBB.out.below hb_)
     clear hyp hpp hfr hpn hpv hb_
     simp only [RegM.v, RepM.v, Sl.v]
     refine hK.out _ _ HPC.out (fun hHeld => ?_)
     clear hK K
     refine tkY 11 77 ?hv33 rfl ?hyy33 (by assumption) ?hrest33
     case hyy33 => intro w hSw; (try dsimp only at hSw); go_simp <;> with_reducible rfl
     simp only [Act.put, List.setIfInBounds_toArray, List.set_cons_zero, List.set_cons_succ]
     refine tkY 12 89 ?hv34 rfl ?hyy34 (by assumption) ?hrest34
     case hyy34 => intro w hSw; (try dsimp only at hSw); go_simp <;> with_reducible rfl
     simp only [Act.put, List.setIfInBounds_toArray, List.set_cons_zero, List.set_cons_succ]
     refine tkY 13 90 ?hv35 rfl ?hyy35 (by assumption) ?hrest35
     case hyy35 => intro w hSw; (try dsimp only at hSw); go_simp <;> with_reducible rfl
     simp only [Act.put, List.setIfInBounds_toArray, List.set_cons_zero, List.set_cons_succ]
     refine tkY 14 91 ?hv36 rfl ?hyy36 (by assumption) ?hrest36
     case hyy36 => intro w hSw; (try dsimp only at hSw); go_simp <;> with_reducible rfl
     simp only [Act.put, List.setIfInBounds_toArray, List.set_cons_zero, List.set_cons_succ]
     have q0 := (HBA.out.cell 0).trans (show _ = some (.int .u8 0) from rfl)
     have q1 := (HBA.out.cell 1).trans (show _ = some (.int .u64 0) from rfl)
     have q2 := (HBA.out.cell 2).trans (show _ = some (.int .i64 0) from rfl)
     have q3 := (HBA.out.cell 3).trans (show _ = some (.slice none 0 0) from rfl)
     have q4 := (HBA.out.cell 4).trans (show _ = some (.slice none 0 0) from rfl)
     have q5 := (HBA.out.cell 5).trans (show _ = some (.slice none 0 0) from rfl)
     have q6 := (HBA.out.cell 6).trans (show _ = some (.int .u64 0) from rfl)
     have q7 := (HBA.out.cell 7).trans (show _ = some (.slice none 0 0) from rfl)
     have f0 := free7 HBA.out 0
     have f1 := free7 HBA.out 1
     have f2 := free7 HBA.out 2
     have f3 := free7 HBA.out 3
     have f4 := free7 HBA.out 4
     have f5 := free7 HBA.out 5
     have f6 := free7 HBA.out 6
     have f7 := free7 HBA.out 7
     have hla := HBA.out.lt
     refine wpAnyH_ready (rs := [17]) (by kernel_rfl) (by simp) ?_
     refine AllReadyH.cons rfl (fun K hK => ?_) AllReadyH.nil
     go_simp
     obtain ⟨us, hus⟩ : ∃ us, ((((((((u10.setCell ⟨bA, 0, none⟩ (.int .u8 y.ki)).setCell ⟨bA, 1, none⟩ (.int .u64 y.inc)).setCell ⟨bA, 2, none⟩ (.int .i64 y.st)).setCell ⟨bA, 3, none⟩ (.slice y.va.A y.va.l.length y.va.c)).setCell ⟨bA, 4, none⟩ (.slice y.dn.A y.dn.l.length y.dn.c)).setCell ⟨bA, 5, none⟩ (.slice y.ou.A y.ou.l.length y.ou.c)).setCell ⟨bA, 6, none⟩ (.int .u64 y.la)).setCell ⟨bA, 7, none⟩ (.slice y.ma.A y.ma.l.length y.ma.c)) = us := ⟨_, rfl⟩
     rw [hus]
     have HGS := hide_ (show u10.grownBy us (some bA) from hus ▸ (grown_set (grown_set (grown_set (grown_set (grown_set (grown_set (grown_set (grown_set (World.grownBy.refl u10 (some bA)) 0 (.int .u8 y.ki)) 1 (.int .u64 y.inc)) 2 (.int .i64 y.st)) 3 (.slice y.va.A y.va.l.length y.va.c)) 4 (.slice y.dn.A y.dn.l.length y.dn.c)) 5 (.slice y.ou.A y.ou.l.length y.ou.c)) 6 (.int .u64 y.la)) 7 (.slice y.ma.A y.ma.l.length y.ma.c)))
     have HBS := hide_ (show BoxAt us bA #[.int .u8 y.ki, .int .u64 y.inc, .int .i64 y.st, .slice y.va.A y.va.l.length y.va.c, .slice y.dn.A y.dn.l.length y.dn.c, .slice y.ou.A y.ou.l.length y.ou.c, .int .u64 y.la, .slice y.ma.A y.ma.l.length y.ma.c] 31 from by
      have h := (heap_set 7 (.slice y.ma.A y.ma.l.length y.ma.c) (heap_set 6 (.int .u64 y.la) (heap_set 5 (.slice y.ou.A y.ou.l.length y.ou.c) (heap_set 4 (.slice y.dn.A y.dn.l.length y.dn.c) (heap_set 3 (.slice y.va.A y.va.l.length y.va.c) (heap_set 2 (.int .i64 y.st) (heap_set 1 (.int .u64 y.inc) (heap_set 0 (.int .u8 y.ki) HBA.out))))))))
      rw [hus] at h
      simp only [List.setIfInBounds_toArray, List.set_cons_zero, List.set_cons_succ] at h
      exact h)
     have HPS := hide_ (show Below wr.heap.size wr us from hus ▸ ((((((((hHeld.setCell (hgA) (.int .u8 y.ki)).setCell (hgA) (.int .u64 y.inc)).setCell (hgA) (.int .i64 y.st)).setCell (hgA) (.slice y.va.A y.va.l.length y.va.c)).setCell (hgA) (.slice y.dn.A y.dn.l.length y.dn.c)).setCell (hgA) (.slice y.ou.A y.ou.l.length y.ou.c)).setCell (hgA) (.int .u64 y.la)).setCell (hgA) (.slice y.ma.A y.ma.l.length y.ma.c)))
     have HFS := hide_ (show Fresh us wr.heap.size y from HF.out.boxed7 HBA.out (by decide) (by decide) (by decide) (by decide) HGS.out)
     have HBC := hide_ (show BoxAt us bB #[.int .i64 0, .int .u64 0, .int .i64 0, .slice none 0 0] 38 from box_far7 HGS.out HBB.out hne)
     clear hus q0 f0 q1 f1 q2 f2 q3 f3 q4 f4 q5 f5 q6 f6 q7 f7 hla HGS HBA HBB HF
     refine hK.out _ _ HPS.out (fun hHeld => ?_)
     clear hK K
     have q0 := (HBC.out.cell 0).trans (show _ = some (.int .i64 0) from rfl)
     have q1 := (HBC.out.cell 1).trans (show _ = some (.int .u64 0) from rfl)
     have q2 := (HBC.out.cell 2).trans (show _ = some (.int .i64 0) from rfl)
     have q3 := (HBC.out.cell 3).trans (show _ = some (.slice none 0 0) from rfl)
     have f0 := free7 HBC.out 0
     have f1 := free7 HBC.out 1
     have f2 := free7 HBC.out 2
     have f3 := free7 HBC.out 3
     have hlb := HBC.out.lt
     refine wpAnyH_ready (rs := [18]) (by kernel_rfl) (by simp) ?_
     refine AllReadyH.cons rfl (fun K hK => ?_) AllReadyH.nil
     go_simp
     obtain ⟨ut, hut⟩ : ∃ ut, ((((us.setCell ⟨bB, 0, none⟩ (.int .i64 p.er)).setCell ⟨bB, 1, none⟩ (.int .u64 p.inc)).setCell ⟨bB, 2, none⟩ (.int .i64 p.st)).setCell ⟨bB, 3, none⟩ (.slice p.va.A p.va.l.length p.va.c)) = ut := ⟨_, rfl⟩
     rw [hut]
     have HGT := hide_ (show us.grownBy ut (some bB) from hut ▸ (grown_set (grown_set (grown_set (grown_set (World.grownBy.refl us (some bB)) 0 (.int .i64 p.er)) 1 (.int .u64 p.inc)) 2 (.int .i64 p.st)) 3 (.slice p.va.A p.va.l.length p.va.c)))
     have HPT := hide_ (show Below wr.heap.size wr ut from hut ▸ ((((hHeld.setCell (hgB) (.int .i64 p.er)).setCell (hgB) (.int .u64 p.inc)).setCell (hgB) (.int .i64 p.st)).setCell (hgB) (.slice p.va.A p.va.l.length p.va.c)))
     have HFT := hide_ (show Fresh ut wr.heap.size y from HFS.out.boxed7 HBC.out (by decide) (by decide) (by decide) (by decide) HGT.out)
     have HBT := hide_ (show BoxAt ut bA #[.int .u8 y.ki, .int .u64 y.inc, .int .i64 y.st, .slice y.va.A y.va.l.length y.va.c, .slice y.dn.A y.dn.l.length y.dn.c, .slice y.ou.A y.ou.l.length y.ou.c, .int .u64 y.la, .slice y.ma.A y.ma.l.length y.ma.c] 31 from box_far7 HGT.out HBS.out (Ne.symm hne))
     clear hut q0 f0 q1 f1 q2 f2 q3 f3 hlb HGT
     refine hK.out _ _ HPT.out (fun hHeld => ?_)
     clear hK K
     refine tkY 19 17 ?hv37 rfl ?hyy37 (by assumption) ?hrest37
     case hyy37 => intro w hSw; (try dsimp only at hSw); go_simp <;> with_reducible rfl
     simp only [Act.put, List.setIfInBounds_toArray, List.set_cons_zero, List.set_cons_succ]
     refine wpAnyH_done (by kernel_rfl) ?_ _
     go_wp2_with fail
     go_meet
     exact ⟨y, bA, rfl, rfl, hgA, HBT, HYP, HFT, HPT⟩
   ·go_simp
    obtain ⟨u11, hu⟩ : ∃ v, u0.alloc (.cells #[.int .i64 0, .int .u64 0, .int .i64 0, .slice none 0 0] 38) = v := ⟨_, rfl⟩
    rw [hu]
    have hbl : Below u0.heap.size u0 u11 := hu ▸ (Below.refl _ _).alloc (Nat.le_refl _) _
    have HPA := hide_ (hHeld.trans (hbl.mono hHeld.size))
    have HBB := hide_ (show BoxAt u11 u0.heap.size #[.int .i64 0, .int .u64 0, .int .i64 0, .slice none 0 0] 38 from hu ▸ BoxAt.new u0 _ _)
    have hgB : wr.heap.size ≤ u0.heap.size := hHeld.size
    clear hbl hu
    obtain ⟨bB, hbB⟩ : ∃ b, u0.heap.size = b := ⟨_, rfl⟩
    rw [hbB] at HBB hgB ⊢
    clear hbB
    refine hK.out _ _ HPA.out (fun hHeld => ?_)
    clear hK K
    refine wpAnyH_ready (rs := [10, 15]) (by kernel_rfl) (by simp) ?_
    refine AllReadyH.cons rfl (fun K hK => ?_) (AllReadyH.cons rfl (fun K hK => ?_) AllReadyH.nil)
    ·go_simp
     go_wp2_with fail
     refine (HAX.out _ x oi (cn + (k : Int)) (HB.out.trans (hHeld.mono HB.out.size)) (HXA.out.step hHeld).ok HOI.out HCK.out HQK.out).mono ?_
     rintro e u12 ⟨y, p, rfl, hyp, hpp, hfr, hpn, hpv, hb_⟩
     have HPC := hide_ (hHeld.trans (hb_.mono hHeld.size))
     have HYP := hide_ hyp
     have HF := hide_ (hfr.less hHeld.size)
     replace HBB := hide_ (HBB.out.below hb_)
     clear hyp hpp hfr hpn hpv hb_
     simp only [RegM.v, RepM.v, Sl.v]
     refine hK.out _ _ HPC.out (fun hHeld => ?_)
     clear hK K
     refine tkY 11 77 ?hv38 rfl ?hyy38 (by assumption) ?hrest38
     case hyy38 => intro w hSw; (try dsimp only at hSw); go_simp <;> with_reducible rfl
     simp only [Act.put, List.setIfInBounds_toArray, List.set_cons_zero, List.set_cons_succ]
     refine tkY 12 89 ?hv39 rfl ?hyy39 (by assumption) ?hrest39
     case hyy39 => intro w hSw; (try dsimp only at hSw); go_simp <;> with_reducible rfl
     simp only [Act.put, List.setIfInBounds_toArray, List.set_cons_zero, List.set_cons_succ]
     refine tkY 13 90 ?hv40 rfl ?hyy40 (by assumption) ?hrest40
     case hyy40 => intro w hSw; (try dsimp only at hSw); go_simp <;> with_reducible rfl
     simp only [Act.put, List.setIfInBounds_toArray, List.set_cons_zero, List.set_cons_succ]
     refine tkY 14 91 ?hv41 rfl ?hyy41 (by assumption) ?hrest41
     case hyy41 => intro w hSw; (try dsimp only at hSw); go_simp <;> with_reducible rfl
     simp only [Act.put, List.setIfInBounds_toArray, List.set_cons_zero, List.set_cons_succ]
     refine wpAnyH_ready (rs := [15]) (by kernel_rfl) (by simp) ?_
     refine AllReadyH.cons rfl (fun K hK => ?_) AllReadyH.nil
     go_simp
     obtain ⟨u13, hu⟩ : ∃ v, u12.alloc (.cells #[.int .u8 0, .int .u64 0, .int .i64 0, .slice none 0 0, .slice none 0 0, .slice none 0 0, .int .u64 0, .slice none 0 0] 31) = v := ⟨_, rfl⟩
     rw [hu]
     have hbl : Below u12.heap.size u12 u13 := hu ▸ (Below.refl _ _).alloc (Nat.le_refl _) _
     have HPA := hide_ (hHeld.trans (hbl.mono hHeld.size))
     have HBA := hide_ (show BoxAt u13 u12.heap.size #[.int .u8 0, .int .u64 0, .int .i64 0, .slice none 0 0, .slice none 0 0, .slice none 0 0, .int .u64 0, .slice none 0 0] 31 from hu ▸ BoxAt.new u12 _ _)
     have hgA : wr.heap.size ≤ u12.heap.size := hHeld.size
     have hlo := HBB.out.lt
     replace HBB := hide_ (HBB.out.below hbl)
     replace HF := hide_ (HF.out.below hbl)
     clear hbl hu
     obtain ⟨bA, hbA⟩ : ∃ b, u12.heap.size = b := ⟨_, rfl⟩
     rw [hbA] at HBA hgA hlo ⊢
     have hne : bA ≠ bB := by omega
     clear hbA
     refine hK.out _ _ HPA.out (fun hHeld => ?_)
     clear hK K
     have q0 := (HBA.out.cell 0).trans (show _ = some (.int .u8 0) from rfl)
     have q1 := (HBA.out.cell 1).trans (show _ = some (.int .u64 0) from rfl)
     have q2 := (HBA.out.cell 2).trans (show _ = some (.int .i64 0) from rfl)
     have q3 := (HBA.out.cell 3).trans (show _ = some (.slice none 0 0) from rfl)
     have q4 := (HBA.out.cell 4).trans (show _ = some (.slice none 0 0) from rfl)
     have q5 := (HBA.out.cell 5).trans (show _ = some (.slice none 0 0) from rfl)
     have q6 := (HBA.out.cell 6).trans (show _ = some (.int .u64 0) from rfl)
     have q7 := (HBA.out.cell 7).trans (show _ = some (.slice none 0 0) from rfl)
     have f0 := free7 HBA.out 0
     have f1 := free7 HBA.out 1
     have f2 := free7 HBA.out 2
     have f3 := free7 HBA.out 3
     have f4 := free7 HBA.out 4
     have f5 := free7 HBA.out 5
     have f6 := free7 HBA.out 6
     have f7 := free7 HBA.out 7
     have hla := HBA.out.lt
     refine wpAnyH_ready (rs := [17]) (by kernel_rfl) (by simp) ?_
     refine AllReadyH.cons rfl (fun K hK => ?_) AllReadyH.nil
     go_simp
     obtain ⟨us, hus⟩ : ∃ us, ((((((((u13.setCell ⟨bA, 0, none⟩ (.int .u8 y.ki)).setCell ⟨bA, 1, none⟩ (.int .u64 y.inc)).setCell ⟨bA, 2, none⟩ (.int .i64 y.st)).setCell ⟨bA, 3, none⟩ (.slice y.va.A y.va.l.length y.va.c)).setCell ⟨bA, 4, none⟩ (.slice y.dn.A y.dn.l.length y.dn.c)).setCell ⟨bA, 5, none⟩ (.slice y.ou.A y.ou.l.length y.ou.c)).setCell ⟨bA, 6, none⟩ (.int .u64 y.la)).setCell ⟨bA, 7, none⟩ (.slice y.ma.A y.ma.l.length y.ma.c)) = us := ⟨_, rfl⟩
     rw [hus]
     have HGS := hide_ (show u13.grownBy us (some bA) from hus ▸ (grown_set (grown_set (grown_set (grown_set (grown_set (grown_set (grown_set (grown_set (World.grownBy.refl u13 (some bA)) 0 (.int .u8 y.ki)) 1 (.int .u64 y.inc)) 2 (.int .i64 y.st)) 3 (.slice y.va.A y.va.l.length y.va.c)) 4 (.slice y.dn.A y.dn.l.length y.dn.c)) 5 (.slice y.ou.A y.ou.l.length y.ou.c)) 6 (.int .u64 y.la)) 7 (.slice y.ma.A y.ma.l.length y.ma.c)))
     have HBS := hide_ (show BoxAt us bA #[.int .u8 y.ki, .int .u64 y.inc, .int .i64 y.st, .slice y.va.A y.va.l.length y.va.c, .slice y.dn.A y.dn.l.length y.dn.c, .slice y.ou.A y.ou.l.length y.ou.c, .int .u64 y.la, .slice y.ma.A y.ma.l.length y.ma.c] 31 from by
      have h := (heap_set 7 (.slice y.ma.A y.ma.l.length y.ma.c) (heap_set 6 (.int .u64 y.la) (heap_set 5 (.slice y.ou.A y.ou.l.length y.ou.c) (heap_set 4 (.slice y.dn.A y.dn.l.length y.dn.c) (heap_set 3 (.slice y.va.A y.va.l.length y.va.c) (heap_set 2 (.int .i64 y.st) (heap_set 1 (.int .u64 y.inc) (heap_set 0 (.int .u8 y.ki) HBA.out))))))))
      rw [hus] at h
      simp only [List.setIfInBounds_toArray, List.set_cons_zero, List.set_cons_succ] at h
      exact h)
     have HPS := hide_ (show Below wr.heap.size wr us from hus ▸ ((((((((hHeld.setCell (hgA) (.int .u8 y.ki)).setCell (hgA) (.int .u64 y.inc)).setCell (hgA) (.int .i64 y.st)).setCell (hgA) (.slice y.va.A y.va.l.length y.va.c)).setCell (hgA) (.slice y.dn.A y.dn.l.length y.dn.c)).setCell (hgA) (.slice y.ou.A y.ou.l.length y.ou.c)).setCell (hgA) (.int .u64 y.la)).setCell (hgA) (.slice y.ma.A y.ma.l.length y.ma.c)))
     have HFS := hide_ (show Fresh us wr.heap.size y from HF.out.boxed7 HBA.out (by decide) (by decide) (by decide) (by decide) HGS.out)
     have HBC := hide_ (show BoxAt us bB #[.int .i64 0, .int .u64 0, .int .i64 0, .slice none 0 0] 38 from box_far7 HGS.out HBB.out hne)
     clear hus q0 f0 q1 f1 q2 f2 q3 f3 q4 f4 q5 f5 q6 f6 q7 f7 hla HGS HBA HBB HF
     refine hK.out _ _ HPS.out (fun hHeld => ?_)
     clear hK K
     have q0 := (HBC.out.cell 0).trans (show _ = some (.int .i64 0) from rfl)
     have q1 := (HBC.out.cell 1).trans (show _ = some (.int .u64 0) from rfl)
     have q2 := (HBC.out.cell 2).trans (show _ = some (.int .i64 0) from rfl)
     have q3 := (HBC.out.cell 3).trans (show _ = some (.slice none 0 0) from rfl)
     have f0 := free7 HBC.out 0
     have f1 := free7 HBC.out 1
     have f2 := free7 HBC.out 2
     have f3 := free7 HBC.out 3
     have hlb := HBC.out.lt
     refine wpAnyH_ready (rs := [18]) (by kernel_rfl) (by simp) ?_
     refine AllReadyH.cons rfl (fun K hK => ?_) AllReadyH.nil
     go_simp
     obtain ⟨ut, hut⟩ : ∃ ut, ((((us.setCell ⟨bB, 0, none⟩ (.int .i64 p.er)).setCell ⟨bB, 1, none⟩ (.int .u64 p.inc)).setCell ⟨bB, 2, none⟩ (.int .i64 p.st)).setCell ⟨bB, 3, none⟩ (.slice p.va.A p.va.l.length p.va.c)) = ut := ⟨_, rfl⟩
     rw [hut]
     have HGT := hide_ (show us.grownBy ut (some bB) from hut ▸ (grown_set (grown_set (grown_set (grown_set (World.grownBy.refl us (some bB)) 0 (.int .i64 p.er)) 1 (.int .u64 p.inc)) 2 (.int .i64 p.st)) 3 (.slice p.va.A p.va.l.length p.va.c)))
     have HPT := hide_ (show Below wr.heap.size wr ut from hut ▸ ((((hHeld.setCell (hgB) (.int .i64 p.er)).setCell (hgB) (.int .u64 p.inc)).setCell (hgB) (.int .i64 p.st)).setCell (hgB) (.slice p.va.A p.va.l.length p.va.c)))
     have HFT := hide_ (show Fresh ut wr.heap.size y from HFS.out.boxed7 HBC.out (by decide) (by decide) (by decide) (by decide) HGT.out)
     have HBT := hide_ (show BoxAt ut bA #[.int .u8 y.ki, .int .u64 y.inc, .int .i64 y.st, .slice y.va.A y.va.l.length y.va.c, .slice y.dn.A y.dn.l.length y.dn.c, .slice y.ou.A y.ou.l.length y.ou.c, .int .u64 y.la, .slice y.ma.A y.ma.l.length y.ma.c] 31 from box_far7 HGT.out HBS.out (Ne.symm hne))
     clear hut q0 f0 q1 f1 q2 f2 q3 f3 hlb HGT
     refine hK.out _ _ HPT.out (fun hHeld => ?_)
     clear hK K
     refine tkY 19 17 ?hv42 rfl ?hyy42 (by assumption) ?hrest42
     case hyy42 => intro w hSw; (try dsimp only at hSw); go_simp <;> with_reducible rfl
     simp only [Act.put, List.setIfInBounds_toArray, List.set_cons_zero, List.set_cons_succ]
     refine wpAnyH_done (by kernel_rfl) ?_ _
     go_wp2_with fail
     go_meet
     exact ⟨y, bA, rfl, rfl, hgA, HBT, HYP, HFT, HPT⟩
    ·go_simp
     obtain ⟨u14, hu⟩ : ∃ v, u11.alloc (.cells #[.int .u8 0, .int .u64 0, .int .i64 0, .slice none 0 0, .slice none 0 0, .slice none 0 0, .int .u64 0, .slice none 0 0] 31) = v := ⟨_, rfl⟩
     rw [hu]
     have hbl : Below u11.heap.size u11 u14 := hu ▸ (Below.refl _ _).alloc (Nat.le_refl _) _
     have HPA := hide_ (hHeld.trans (hbl.mono hHeld.size))
     have HBA := hide_ (show BoxAt u14 u11.heap.size #[.int .u8 0, .int .u64 0, .int .i64 0, .slice none 0 0, .slice none 0 0, .slice none 0 0, .int .u64 0, .slice none 0 0] 31 from hu ▸ BoxAt.new u11 _ _)
     have hgA : wr.heap.size ≤ u11.heap.size := hHeld.size
     have hlo := HBB.out.lt
     replace HBB := hide_ (HBB.out.below hbl)
     clear hbl hu
     obtain ⟨bA, hbA⟩ : ∃ b, u11.heap.size = b := ⟨_, rfl⟩
     rw [hbA] at HBA hgA hlo ⊢
     have hne : bA ≠ bB := by omega
     clear hbA
     refine hK.out _ _ HPA.out (fun hHeld => ?_)
     clear hK K
     refine wpAnyH_ready (rs := [10]) (by kernel_rfl) (by simp) ?_
     refine AllReadyH.cons rfl (fun K hK => ?_) AllReadyH.nil
     go_simp
     go_wp2_with fail
     refine (HAX.out _ x oi (cn + (k : Int)) (HB.out.trans (hHeld.mono HB.out.size)) (HXA.out.step hHeld).ok HOI.out HCK.out HQK.out).mono ?_
     rintro e u15 ⟨y, p, rfl, hyp, hpp, hfr, hpn, hpv, hb_⟩
     have HPC := hide_ (hHeld.trans (hb_.mono hHeld.size))
     have HYP := hide_ hyp
     have HF := hide_ (hfr.less hHeld.size)
     replace HBA := hide_ (HBA.out.below hb_)
     replace HBB := hide_ (HBB.out.below hb_)
     clear hyp hpp hfr hpn hpv hb_
     simp only [RegM.v, RepM.v, Sl.v]
     refine hK.out _ _ HPC.out (fun hHeld => ?_)
     clear hK K
     refine tkY 11 77 ?hv43 rfl ?hyy43 (by assumption) ?hrest43
     case hyy43 => intro w hSw; (try dsimp only at hSw); go_simp <;> with_reducible rfl
     simp only [Act.put, List.setIfInBounds_toArray, List.set_cons_zero, List.set_cons_succ]
     refine tkY 12 89 ?hv44 rfl ?hyy44 (by assumption) ?hrest44
     case hyy44 => intro w hSw; (try dsimp only at hSw); go_simp <;> with_reducible rfl
     simp only [Act.put, List.setIfInBounds_toArray, List.set_cons_zero, List.set_cons_succ]
     refine tkY 13 90 ?hv45 rfl ?hyy45 (by assumption) ?hrest45
     case hyy45 => intro w hSw; (try dsimp only at hSw); go_simp <;> with_reducible rfl
     simp only [Act.put, List.setIfInBounds_toArray, List.set_cons_zero, List.set_cons_succ]
     refine tkY 14 91 ?hv46 rfl ?hyy46 (by assumption) ?hrest46
     case hyy46 => intro w hSw; (try dsimp only at hSw); go_simp <;> with_reducible rfl
     simp only [Act.put, List.setIfInBounds_toArray, List.set_cons_zero, List.set_cons_succ]
     have q0 := (HBA.out.cell 0).trans (show _ = some (.int .u8 0) from rfl)
     have q1 := (HBA.out.cell 1).trans (show _ = some (.int .u64 0) from rfl)
     have q2 := (HBA.out.cell 2).trans (show _ = some (.int .i64 0) from rfl)
     have q3 := (HBA.out.cell 3).trans (show _ = some (.slice none 0 0) from rfl)
     have q4 := (HBA.out.cell 4).trans (show _ = some (.slice none 0 0) from rfl)
     have q5 := (HBA.out.cell 5).trans (show _ = some (.slice none 0 0) from rfl)
     have q6 := (HBA.out.cell 6).trans (show _ = some (.int .u64 0) from rfl)
     have q7 := (HBA.out.cell 7).trans (show _ = some (.slice none 0 0) from rfl)
     have f0 := free7 HBA.out 0
     have f1 := free7 HBA.out 1
     have f2 := free7 HBA.out 2
     have f3 := free7 HBA.out 3
     have f4 := free7 HBA.out 4
     have f5 := free7 HBA.out 5
     have f6 := free7 HBA.out 6
     have f7 := free7 HBA.out 7
     have hla := HBA.out.lt
     refine wpAnyH_ready (rs := [17]) (by kernel_rfl) (by simp) ?_
     refine AllReadyH.cons rfl (fun K hK => ?_) AllReadyH.nil
     go_simp
     obtain ⟨us, hus⟩ : ∃ us, ((((((((u15.setCell ⟨bA, 0, none⟩ (.int .u8 y.ki)).setCell ⟨bA, 1, none⟩ (.int .u64 y.inc)).setCell ⟨bA, 2, none⟩ (.int .i64 y.st)).setCell ⟨bA, 3, none⟩ (.slice y.va.A y.va.l.length y.va.c)).setCell ⟨bA, 4, none⟩ (.slice y.dn.A y.dn.l.length y.dn.c)).setCell ⟨bA, 5, none⟩ (.slice y.ou.A y.ou.l.length y.ou.c)).setCell ⟨bA, 6, none⟩ (.int .u64 y.la)).setCell ⟨bA, 7, none⟩ (.slice y.ma.A y.ma.l.length y.ma.c)) = us := ⟨_, rfl⟩
     rw [hus]
     have HGS := hide_ (show u15.grownBy us (some bA) from hus ▸ (grown_set (grown_set (grown_set (grown_set (grown_set (grown_set (grown_set (grown_set (World.grownBy.refl u15 (some bA)) 0 (.int .u8 y.ki)) 1 (.int .u64 y.inc)) 2 (.int .i64 y.st)) 3 (.slice y.va.A y.va.l.length y.va.c)) 4 (.slice y.dn.A y.dn.l.length y.dn.c)) 5 (.slice y.ou.A y.ou.l.length y.ou.c)) 6 (.int .u64 y.la)) 7 (.slice y.ma.A y.ma.l.length y.ma.c)))
     have HBS := hide_ (show BoxAt us bA #[.int .u8 y.ki, .int .u64 y.inc, .int .i64 y.st, .slice y.va.A y.va.l.length y.va.c, .slice y.dn.A y.dn.l.length y.dn.c, .slice y.ou.A y.ou.l.length y.ou.c, .int .u64 y.la, .slice y.ma.A y.ma.l.length y.ma.c] 31 from by
      have h := (heap_set 7 (.slice y.ma.A y.ma.l.length y.ma.c) (heap_set 6 (.int .u64 y.la) (heap_set 5 (.slice y.ou.A y.ou.l.length y.ou.c) (heap_set 4 (.slice y.dn.A y.dn.l.length y.dn.c) (heap_set 3 (.slice y.va.A y.va.l.length y.va.c) (heap_set 2 (.int .i64 y.st) (heap_set 1 (.int .u64 y.inc) (heap_set 0 (.int .u8 y.ki) HBA.out))))))))
      rw [hus] at h
      simp only [List.setIfInBounds_toArray, List.set_cons_zero, List.set_cons_succ] at h
      exact h)
     have HPS := hide_ (show Below wr.heap.size wr us from hus ▸ ((((((((hHeld.setCell (hgA) (.int .u8 y.ki)).setCell (hgA) (.int .u64 y.inc)).setCell (hgA) (.int .i64 y.st)).setCell (hgA) (.slice y.va.A y.va.l.length y.va.c)).setCell (hgA) (.slice y.dn.A y.dn.l.length y.dn.c)).setCell (hgA) (.slice y.ou.A y.ou.l.length y.ou.c)).setCell (hgA) (.int .u64 y.la)).setCell (hgA) (.slice y.ma.A y.ma.l.length y.ma.c)))
     have HFS := hide_ (show Fresh us wr.heap.size y from HF.out.boxed7 HBA.out (by decide) (by decide) (by decide) (by decide) HGS.out)
     have HBC := hide_ (show BoxAt us bB #[.int .i64 0, .int .u64 0, .int .i64 0, .slice none 0 0] 38 from box_far7 HGS.out HBB.out hne)
     clear hus q0 f0 q1 f1 q2 f2 q3 f3 q4 f4 q5 f5 q6 f6 q7 f7 hla HGS HBA HBB HF
     refine hK.out _ _ HPS.out (fun hHeld => ?_)
     clear hK K
     have q0 := (HBC.out.cell 0).trans (show _ = some (.int .i64 0) from rfl)
     have q1 := (HBC.out.cell 1).trans (show _ = some (.int .u64 0) from rfl)
     have q2 := (HBC.out.cell 2).trans (show _ = some (.int .i64 0) from rfl)
     have q3 := (HBC.out.cell 3).trans (show _ = some (.slice none 0 0) from rfl)
     have f0 := free7 HBC.out 0
     have f1 := free7 HBC.out 1
     have f2 := free7 HBC.out 2
     have f3 := free7 HBC.out 3
     have hlb := HBC.out.lt
     refine wpAnyH_ready (rs := [18]) (by kernel_rfl) (by simp) ?_
     refine AllReadyH.cons rfl (fun K hK => ?_) AllReadyH.nil
     go_simp
     obtain ⟨ut, hut⟩ : ∃ ut, ((((us.setCell ⟨bB, 0, none⟩ (.int .i64 p.er)).setCell ⟨bB, 1, none⟩ (.int .u64 p.inc)).setCell ⟨bB, 2, none⟩ (.int .i64 p.st)).setCell ⟨bB, 3, none⟩ (.slice p.va.A p.va.l.length p.va.c)) = ut := ⟨_, rfl⟩
     rw [hut]
     have HGT := hide_ (show us.grownBy ut (some bB) from hut ▸ (grown_set (grown_set (grown_set (grown_set (World.grownBy.refl us (some bB)) 0 (.int .i64 p.er)) 1 (.int .u64 p.inc)) 2 (.int .i64 p.st)) 3 (.slice p.va.A p.va.l.length p.va.c)))
     have HPT := hide_ (show Below wr.heap.size wr ut from hut ▸ ((((hHeld.setCell (hgB) (.int .i64 p.er)).setCell (hgB) (.int .u64 p.inc)).setCell (hgB) (.int .i64 p.st)).setCell (hgB) (.slice p.va.A p.va.l.length p.va.c)))
     have HFT := hide_ (show Fresh ut wr.heap.size y from HFS.out.boxed7 HBC.out (by decide) (by decide) (by decide) (by decide) HGT.out)
     have HBT := hide_ (show BoxAt ut bA #[.int .u8 y.ki, .int .u64 y.inc, .int .i64 y.st, .slice y.va.A y.va.l.length y.va.c, .slice y.dn.A y.dn.l.length y.dn.c, .slice y.ou.A y.ou.l.length y.ou.c, .int .u64 y.la, .slice y.ma.A y.ma.l.length y.ma.c] 31 from box_far7 HGT.out HBS.out (Ne.symm hne))
     clear hut q0 f0 q1 f1 q2 f2 q3 f3 hlb HGT
     refine hK.out _ _ HPT.out (fun hHeld => ?_)
     clear hK K
     refine tkY 19 17 ?hv47 rfl ?hyy47 (by assumption) ?hrest47
     case hyy47 => intro w hSw; (try dsimp only at hSw); go_simp <;> with_reducible rfl
     simp only [Act.put, List.setIfInBounds_toArray, List.set_cons_zero, List.set_cons_succ]
     refine wpAnyH_done (by kernel_rfl) ?_ _
     go_wp2_with fail
     go_meet
     exact ⟨y, bA, rfl, rfl, hgA, HBT, HYP, HFT, HPT⟩
  case rest =>
  obtain ⟨y, b15, rfl, rfl, hb15, HBY, HYP, HFY, HPY⟩ := hcut
  have HXc := hide_ (HX.out.below HPY.out)
  have HTc := hide_ (HT.out.below HPY.out)
  have HOc := hide_ (HO.out.below HPY.out)
  have HBc := hide_ (HB.out.trans (HPY.out.mono HB.out.size))
  have hzc : zx < wc.heap.size := HXc.out.lt
  have hyc : b15 < wc.heap.size := HBY.out.lt
  have HGY := hide_ (show GoodG tv y.p from HYP.out ▸ apply_good HQK.out HXA.out.ok.1.2.2.2.1 HOI.out)
  have HSY := hide_ (show setdB m.so m.inc m.ce y.p.ma = true from HYP.out ▸ once_keep HSX.out)
  have hcy := HBY.out.cell
  have hcx := HXc.out.cell
  have f0 := free7 HXc.out 0
  have f1 := free7 HXc.out 1
  have f2 := free7 HXc.out 2
  have f3 := free7 HXc.out 3
  have f4 := free7 HXc.out 4
  have f5 := free7 HXc.out 5
  have f6 := free7 HXc.out 6
  have f7 := free7 HXc.out 7
  clear HCO HCT HCX HPY HYP HX HXA HGX HSX HT HO HB HQK HCK HOI HP_v1
  go_upto_region 15 with fail
  obtain ⟨W5, hW5⟩ : ∃ W5, ((((((((wc.setCell ⟨zx, 0, none⟩ (.int .u8 y.ki)).setCell ⟨zx, 1, none⟩ (.int .u64 y.inc)).setCell ⟨zx, 2, none⟩ (.int .i64 y.st)).setCell ⟨zx, 3, none⟩ (.slice y.va.A y.va.l.length y.va.c)).setCell ⟨zx, 4, none⟩ (.slice y.dn.A y.dn.l.length y.dn.c)).setCell ⟨zx, 5, none⟩ (.slice y.ou.A y.ou.l.length y.ou.c)).setCell ⟨zx, 6, none⟩ (.int .u64 y.la)).setCell ⟨zx, 7, none⟩ (.slice y.ma.A y.ma.l.length y.ma.c)) = W5 := ⟨_, rfl⟩
  rw [hW5]
  have HG5 := hide_ (show wc.grownBy W5 (some zx) from hW5 ▸ (grown_set (grown_set (grown_set (grown_set (grown_set (grown_set (grown_set (grown_set (World.grownBy.refl wc (some zx)) 0 (.int .u8 y.ki)) 1 (.int .u64 y.inc)) 2 (.int .i64 y.st)) 3 (.slice y.va.A y.va.l.length y.va.c)) 4 (.slice y.dn.A y.dn.l.length y.dn.c)) 5 (.slice y.ou.A y.ou.l.length y.ou.c)) 6 (.int .u64 y.la)) 7 (.slice y.ma.A y.ma.l.length y.ma.c)))
  have HX5 := hide_ (show BoxAt W5 zx #[.int .u8 y.ki, .int .u64 y.inc, .int .i64 y.st, .slice y.va.A y.va.l.length y.va.c, .slice y.dn.A y.dn.l.length y.dn.c, .slice y.ou.A y.ou.l.length y.ou.c, .int .u64 y.la, .slice y.ma.A y.ma.l.length y.ma.c] 31 from by
   have h := (heap_set 7 (.slice y.ma.A y.ma.l.length y.ma.c) (heap_set 6 (.int .u64 y.la) (heap_set 5 (.slice y.ou.A y.ou.l.length y.ou.c) (heap_set 4 (.slice y.dn.A y.dn.l.length y.dn.c) (heap_set 3 (.slice y.va.A y.va.l.length y.va.c) (heap_set 2 (.int .i64 y.st) (heap_set 1 (.int .u64 y.inc) (heap_set 0 (.int .u8 y.ki) HXc.out))))))))
   rw [hW5] at h
   simp only [List.setIfInBounds_toArray, List.set_cons_zero, List.set_cons_succ] at h
   exact h)
  clear hW5 hcy hcx f0 f1 f2 f3 f4 f5 f6 f7
  have HA5 := hide_ (show Aside7 W5 zx y from fun u hu => Aside7.fresh HFY.out hzr u (grown_join HG5.out hu))
  have HT5 := hide_ (box_far7 HG5.out HTc.out (by omega))
  have HO5 := hide_ (box_far7 HG5.out HOc.out (by omega))
  have HB5 := hide_ (HBc.out.grown HG5.out HBc.out.size (fun q hq => by injection hq with hq; omega))
  have h2 := HAX.out W5 y ⟨5, m.ke, m.cl, m.sq, m.ac, m.pa, m.ar, m.so, m.inc, m.ce⟩ cn HB5.out HA5.out.ok H5.out HC.out (right_of HQ.out HGY.out (rightB_lens HQ.out).2.2.2)
  rw [once_again HGY.out.1 (mayO_consume (rightB_lens HQ.out).2.1 rfl) rfl HSY.out] at h2
  have HAY := hide_ h2
  clear h2 HXc HTc HOc HBc HBY HFY HG5
  have hct := HT5.out.cell
  have hcx := HX5.out.cell
  have hco := HO5.out.cell
  have zt := HT5.out.lt
  have zxl := HX5.out.lt
  have zo := HO5.out.lt
  go_wp2_with fail
  clear hct hcx hco zt zxl zo
  refine HAY.out.mono ?_
  rintro e6 w6 ⟨z, p, rfl, hzp, hpp, hfr, hpn, hpv, hb6⟩
  have hpe : p.er = 14 := congrArg Prod.fst hpp
  have d14 : (p.er != 14) = false := bne_eq_false_iff_eq.2 hpe
  have HDZ := hide_ (show decide (z.p = y.p) = true from decide_eq_true hzp)
  have HZ6 := hide_ hfr.ok
  have HX6 := hide_ (HX5.out.below hb6)
  have HT6 := hide_ (HT5.out.below hb6)
  have HO6 := hide_ (HO5.out.below hb6)
  have HA6 := hide_ (HA5.out.step hb6)
  have HB6 := hide_ (HB5.out.trans (hb6.mono HB5.out.size))
  clear hzp hpp hfr hpn hpv hb6 hpe HAY
  simp only [RegM.v, RepM.v, Sl.v]
  obtain ⟨W7, hW7⟩ : ∃ W7, (w6.alloc (.cells #[.int .u8 z.ki, .int .u64 z.inc, .int .i64 z.st, .slice z.va.A z.va.l.length z.va.c, .slice z.dn.A z.dn.l.length z.dn.c, .slice z.ou.A z.ou.l.length z.ou.c, .int .u64 z.la, .slice z.ma.A z.ma.l.length z.ma.c] 31)).alloc (.cells #[.int .i64 p.er, .int .u64 p.inc, .int .i64 p.st, .slice p.va.A p.va.l.length p.va.c] 38) = W7 := ⟨_, rfl⟩
  have hb7 : Below w6.heap.size w6 W7 := hW7 ▸ ((Below.refl _ _).alloc (Nat.le_refl _) _).alloc (by simp) _
  have HZ7 := hide_ (show BoxAt W7 w6.heap.size #[.int .u8 z.ki, .int .u64 z.inc, .int .i64 z.st, .slice z.va.A z.va.l.length z.va.c, .slice z.dn.A z.dn.l.length z.dn.c, .slice z.ou.A z.ou.l.length z.ou.c, .int .u64 z.la, .slice z.ma.A z.ma.l.length z.ma.c] 31 from hW7 ▸ (BoxAt.new w6 _ _).alloc _)
  have HP7 := hide_ (show BoxAt W7 (w6.heap.size + 1) #[.int .i64 p.er, .int .u64 p.inc, .int .i64 p.st, .slice p.va.A p.va.l.length p.va.c] 38 from by
   have h := BoxAt.new (w6.alloc (.cells #[.int .u8 z.ki, .int .u64 z.inc, .int .i64 z.st, .slice z.va.A z.va.l.length z.va.c, .slice z.dn.A z.dn.l.length z.dn.c, .slice z.ou.A z.ou.l.length z.ou.c, .int .u64 z.la, .slice z.ma.A z.ma.l.length z.ma.c] 31)) #[.int .i64 p.er, .int .u64 p.inc, .int .i64 p.st, .slice p.va.A p.va.l.length p.va.c] 38
   rw [hW7] at h
   simpa using h)
  have HX7 := hide_ (HX6.out.below hb7)
  have HT7 := hide_ (HT6.out.below hb7)
  have HO7 := hide_ (HO6.out.below hb7)
  have HA7 := hide_ (HA6.out.step hb7)
  have HB7 := hide_ (HB6.out.trans (hb7.mono HB6.out.size))
  have HZO := hide_ (show RegM.ok W7 W7.heap.size z from reg_stable.more (reg_stable.below HZ6.out hb7) hb7.size)
  have HW7 := hide_ hW7
  clear hW7 hb7 HX5 HT5 HO5 HA5 HB5 HX6 HT6 HO6 HA6 HB6
  go_upto_region 16 with fail
  rw [HW7.out]
  have hcz := HZ7.out.cell
  have hcx := HX7.out.cell
  have hcp := HP7.out.cell
  have zz := HZ7.out.lt
  have zxl := HX7.out.lt
  have zp := HP7.out.lt
  go_wp2_with fail
  clear hcz hcx hcp zz zxl zp
  refine (HSD.out W7 z y HZO.out HA7.out.ok).mono ?_
  rw [HDZ.out]
  rintro e8 w8 ⟨rfl, hb8⟩
  have HX8 := hide_ (HX7.out.below hb8)
  have HT8 := hide_ (HT7.out.below hb8)
  have HO8 := hide_ (HO7.out.below hb8)
  have HA8 := hide_ (HA7.out.step hb8)
  have HB8 := hide_ (HB7.out.trans (hb8.mono HB7.out.size))
  clear hb8
  go_wp2_with fail
  go_roundw
  case rel => exact ⟨k + 1, y, by omega, by go_num, HX8, HA8, HGY, HSY, HT8, HO8, HB8⟩
  case measure => simp [intOf]; omega

theorem own : ownKnob Tryz.prog.godebug = none := by kernel_rfl
theorem laid : laidOutB Tryz.prog = true := by kernel_rfl

set_option maxRecDepth 100000 in
theorem contract (H : Type) (enc : TypeId × Value → H) (W : World) (base : Nat) (args : Array Value) (ds gs : List (DataW H)) (before : List MemPlace)
  (hval : ∀ (j : Nat) t v, Tryz.f4.params[j]? = some t → args[j]? = some v → Value.okWide Tryz.prog W .any base t v)
  (hW : DataW.Whole enc Tryz.prog Tryz.f4.params.toList Rows.engineOnceSpec.vars false W args.toList ds gs before) :
  Calls Tryz.prog 4 args W fun e W' => ∃ v, e = .returned v ∧ Rows.engineOnceSpec.post enc Tryz.prog Tryz.f4 false true false false W args v W' := by
 have hW' := hW
 obtain ⟨p, q, hA0, hV, rfl, hfz, hnd⟩ := hW
 have hA : DataW.TrodAll enc Tryz.prog W 0 (fun _ => true) true Tryz.f4.params.toList args.toList ds p := hA0
 rw [Tryz.params4] at hA hval
 obtain ⟨v0, vs0, d0, ds0, p0, q0, hargs, rfl, rfl, h0, r0⟩ := trodAll_cons hA
 obtain ⟨v1, vs1, d1, ds1, p1, q1, rfl, rfl, rfl, h1, r1⟩ := trodAll_cons r0
 obtain ⟨v2, vs2, d2, ds2, p2, q2, rfl, rfl, rfl, h2, r2⟩ := trodAll_cons r1
 obtain ⟨v3, vs3, d3, ds3, p3, q3, rfl, rfl, rfl, h3, r3⟩ := trodAll_cons r2
 obtain ⟨v4, vs4, d4, ds4, p4, q4, rfl, rfl, rfl, h4, r4⟩ := trodAll_cons r3
 obtain ⟨rfl, rfl, rfl⟩ := trodAll_nil r4
 obtain rfl : args = #[v0, v1, v2, v3, v4] := by cases args; simp_all
 obtain ⟨rfl, rfl⟩ := trodVars_none hV
 obtain ⟨x0, y0, z0, rfl, bx0, by0, bz0⟩ := open_table (hval 0 24 v0 rfl rfl) h0
 obtain ⟨u1, rfl, bu1⟩ := open_reg (hval 1 31 v1 rfl rfl) h1
 obtain ⟨u2, rfl, bu2⟩ := open_op (hval 2 33 v2 rfl rfl) h2
 obtain ⟨u3, rfl, bu3⟩ := open_ops (hval 3 47 v3 rfl rfl) h3
 obtain ⟨a4, rfl, rfl, rfl, w4⟩ := open_int Tryz.underlying25 (hval 4 25 v4 rfl rfl) h4
 have b4 : 0 ≤ a4 ∧ a4 ≤ 18446744073709551615 := by simpa [Lit.wf, IntKind.min, IntKind.max, IntKind.signed, IntKind.bits] using w4
 have fin : ∀ (e : Ending) (W' : World), e = .returned (.bool true) ∧ Below W.heap.size W W' → ∃ v, e = .returned v ∧ Rows.engineOnceSpec.post enc Tryz.prog Tryz.f4 false true false false W #[tabV x0 y0 z0, RegM.v u1, OpM.v u2, Sl.v u3, .int .u64 a4] v W' :=
  fun e W' ⟨he, hb⟩ => ⟨_, he, law_post laid (by kernel_rfl) rfl rfl rfl Tryz.underlying4 hW' hb⟩
 exact (walk x0 y0 z0 u1 u2 u3 a4 W bz0 bu1 bu2 bu3 b4).mono fin

set_option maxRecDepth 100000 in
theorem lifted (os : Os) (started : os.Started) (H : Type) (enc : TypeId × Value → H) :
  ReturnsInHanded {} Tryz.checked os 4 .any (Rows.engineOnceSpec.pre6 enc Tryz.prog Tryz.f4 Rows.engineOnceRow.domain false) (Rows.engineOnceSpec.post enc Tryz.prog Tryz.f4 false true false false) := by
 refine returnsInHanded_of_change (C := Tryz.checked) (s := Rows.engineOnceSpec) own started (by kernel_rfl) Tryz.func4
  (ChangeSpec.witness6 (enc := enc) (C := Tryz.checked) false ⟨#[], #[.agg #[.int .i64 0, .int .i64 0, .slice none 0 0], .agg #[.int .u8 0, .int .u64 0, .int .i64 0, .slice none 0 0, .slice none 0 0, .slice none 0 0, .int .u64 0, .slice none 0 0], .agg #[.int .u8 0, .int .u8 0, .int .u8 0, .int .u64 0, .int .i64 0, .int .i64 0, .int .i64 0, .int .u8 0, .int .u64 0, .int .u64 0], .slice none 0 0, .int .u64 0], []⟩ 8 (by kernel_rfl) (by kernel_rfl) (by kernel_rfl) (by kernel_rfl)) ?_
 intro W base args ds gs before hval hW _ _
 exact contract H enc W base args ds gs before hval hW

theorem proved : Rows.EngineOnceSaid :=
 OpenClaim.holds_of_wide 4 Tryz.f4 rfl rfl rfl rfl rfl rfl rfl ⟨rfl, rfl, rfl, rfl, rfl⟩ rfl rfl rfl rfl rfl (by kernel_rfl) Tryz.func4 (by kernel_rfl)
  (of_decide_eq_true (by kernel_rfl)) (by unfold Func.isWrapper; first | (rw [if_pos (by decide +kernel)]; kernel_rfl) | (rw [if_neg (by decide +kernel)]; exact ⟨rfl, rfl⟩))
  (fun os started H enc _ => lifted os started H enc)

end Go.Proofs.YtpiikdinphnjbaaGreat.engineOnce
