/-
 scrutineerlaw07.EngineCells answers true for every input and leaves its input as it was; no condition.
-/
import Derived.Test.YtpiikdinphnjbaaGreatJ49
import Derived.Test.YtpiikdinphnjbaaGreatHeld
namespace Go.Proofs.YtpiikdinphnjbaaGreat
open Go.ChangeShapes Go.WideShapes Go.ChangeAt Go.RowKit Go.Joins Go.Deep

section
variable {H : Type} {enc : TypeId × Value → H} {w : World} {base : Nat} {spare : Nat → Bool} {held : Bool}
set_option maxRecDepth 100000 in
theorem el_cel {n : Nat} {xs : List Value} {y : DataW H × List MemPlace} (hl : xs.length = 4) (h : DataW.trod enc Tryz.prog w base spare held n 51 xs = some y) : ∃ t, xs = celC t ∧ celIn t := by
 match xs, hl with
 | [c0, c1, c2, c3], _ =>
  obtain ⟨_, _, h0⟩ := field_at Tryz.underlying51 h 0 rfl rfl rfl (by kernel_rfl) rfl
  obtain ⟨_, _, h1⟩ := field_at Tryz.underlying51 h 1 rfl rfl rfl (by kernel_rfl) rfl
  obtain ⟨_, _, h2⟩ := field_at Tryz.underlying51 h 2 rfl rfl rfl (by kernel_rfl) rfl
  obtain ⟨_, _, h3⟩ := field_at Tryz.underlying51 h 3 rfl rfl rfl (by kernel_rfl) rfl
  obtain ⟨a, rfl, ha⟩ := open_u64c Tryz.underlying25 h0
  obtain ⟨b, rfl, hb⟩ := open_u8c Tryz.underlying5 h1
  obtain ⟨c, rfl, hc⟩ := open_i64c Tryz.underlying3 h2
  obtain ⟨d, rfl, hd⟩ := open_i64c Tryz.underlying2 h3
  exact ⟨(a, b, c, d), rfl, ha, hb, hc, hd⟩
theorem open_celc {n : Nat} {v : Value} {y : DataW H × List MemPlace} (h : DataW.trod enc Tryz.prog w base spare held n 28 [v] = some y) : ∃ s : Sl CelM, v = s.v ∧ celsOk w w.heap.size s := by
 obtain ⟨s, hv, h1, h2, h3, h4⟩ := open_sl celC celIn (q := 4) (by omega) Tryz.underlying28 (by kernel_rfl) (fun _ => rfl) (fun _ _ _ hl h => el_cel hl h) h
 exact ⟨s, hv, h1, h2, h3, h4⟩
set_option maxRecDepth 100000 in
theorem el_done {n : Nat} {xs : List Value} {y : DataW H × List MemPlace} (hl : xs.length = 6) (h : DataW.trod enc Tryz.prog w base spare held n 63 xs = some y) : ∃ t, xs = DoneM.cs t ∧ DoneM.ok w w.heap.size t := by
 match xs, hl with
 | [c0, c1, c2, c3, c4, c5], _ =>
  obtain ⟨_, _, h0⟩ := field_at Tryz.underlying63 h 0 rfl rfl rfl (by kernel_rfl) rfl
  obtain ⟨_, _, h1⟩ := field_at Tryz.underlying63 h 1 rfl rfl rfl (by kernel_rfl) rfl
  obtain ⟨_, _, h2⟩ := field_many (cs := [c2, c3, c4, c5]) (q := 4) Tryz.underlying63 h 2 rfl rfl rfl (by kernel_rfl) rfl
  obtain ⟨a, rfl, ha⟩ := open_u8c Tryz.underlying5 h0
  obtain ⟨b, rfl, hb⟩ := open_u64c Tryz.underlying25 h1
  obtain ⟨c, hc, hco⟩ := el_rep rfl h2
  obtain ⟨er, inc, st, va⟩ := c
  simp only [RepM.cs, List.cons.injEq, and_true] at hc
  obtain ⟨rfl, rfl, rfl, rfl⟩ := hc
  exact ⟨⟨a, b, er, inc, st, va⟩, rfl, ⟨ha, hb, hco.1⟩, hco.2⟩
theorem open_donec {n : Nat} {v : Value} {y : DataW H × List MemPlace} (h : DataW.trod enc Tryz.prog w base spare held n 27 [v] = some y) : ∃ s : Sl DoneM, v = s.v ∧ dnsOk w w.heap.size s := by
 obtain ⟨s, hv, h1, h2, h3, h4⟩ := open_sl DoneM.cs (DoneM.ok w w.heap.size) (q := 6) (by omega) Tryz.underlying27 (by kernel_rfl) (fun _ => rfl) (fun _ _ _ hl h => el_done hl h) h
 exact ⟨s, hv, h1, h2, h3, h4⟩
set_option maxRecDepth 100000 in
theorem el_reg {n : Nat} {xs : List Value} {y : DataW H × List MemPlace} (hl : xs.length = 8) (h : DataW.trod enc Tryz.prog w base spare held n 31 xs = some y) : ∃ t, xs = RegM.cs t ∧ RegM.ok w w.heap.size t := by
 match xs, hl with
 | [c0, c1, c2, c3, c4, c5, c6, c7], _ =>
  obtain ⟨_, _, h0⟩ := field_at Tryz.underlying31 h 0 rfl rfl rfl (by kernel_rfl) rfl
  obtain ⟨_, _, h1⟩ := field_at Tryz.underlying31 h 1 rfl rfl rfl (by kernel_rfl) rfl
  obtain ⟨_, _, h2⟩ := field_at Tryz.underlying31 h 2 rfl rfl rfl (by kernel_rfl) rfl
  obtain ⟨_, _, h3⟩ := field_at Tryz.underlying31 h 3 rfl rfl rfl (by kernel_rfl) rfl
  obtain ⟨_, _, h4⟩ := field_at Tryz.underlying31 h 4 rfl rfl rfl (by kernel_rfl) rfl
  obtain ⟨_, _, h5⟩ := field_at Tryz.underlying31 h 5 rfl rfl rfl (by kernel_rfl) rfl
  obtain ⟨_, _, h6⟩ := field_at Tryz.underlying31 h 6 rfl rfl rfl (by kernel_rfl) rfl
  obtain ⟨_, _, h7⟩ := field_at Tryz.underlying31 h 7 rfl rfl rfl (by kernel_rfl) rfl
  obtain ⟨a, rfl, ha⟩ := open_u8c Tryz.underlying5 h0
  obtain ⟨b, rfl, hb⟩ := open_u64c Tryz.underlying25 h1
  obtain ⟨c, rfl, hc⟩ := open_i64c Tryz.underlying3 h2
  obtain ⟨d, rfl, hd⟩ := open_intc h3
  obtain ⟨e, rfl, he⟩ := open_donec h4
  obtain ⟨f, rfl, hf⟩ := open_celc h5
  obtain ⟨g, rfl, hg⟩ := open_u64c Tryz.underlying25 h6
  obtain ⟨i, rfl, hi⟩ := open_mrkc h7
  exact ⟨⟨a, b, c, d, e, f, g, i⟩, rfl, ⟨ha, hb, hc, hg⟩, hd, he, hf, hi⟩
set_option maxRecDepth 100000 in
/-- a register that comes in -/
theorem open_reg {r : Reach} {b0 : Nat} {v : Value} {d : DataW H} {p : List MemPlace} (hv : Value.okWide Tryz.prog w r b0 31 v) (h : DataW.Trod enc Tryz.prog w base spare held 31 v d p) :
  ∃ s : RegM, v = s.v ∧ RegM.ok w w.heap.size s := by
 obtain ⟨cs, rfl, hsz⟩ := okWide_struct Tryz.underlying31 hv
 obtain ⟨fuel, hf⟩ := h
 obtain ⟨l⟩ := cs
 have h8 : Tryz.prog.cellsOf 31 = 8 := by kernel_rfl
 have hl : l.length = 8 := hsz.trans h8
 obtain ⟨s, e, hs⟩ := el_reg (by simpa [Value.cells] using hl) hf
 refine ⟨s, ?_, hs⟩
 have e2 : l = RegM.cs s := by simpa [Value.cells] using e
 rw [e2]
 rfl
end
/-- an operation of a drawn region that yields a value -/
theorem tkY {P : Program} {ops : Array Oper} {Q : Exit → Act → World → Prop} {md : Region.Mode} {S : World → Prop} {fuel : Nat} {listed : Array Bool} {a : Act} {w : World} (i n : Nat) (v : Value) {p1 p2 p3 p4 p5}
  (hi : ops[i]? = some ⟨some n, p1, p2, p3, p4, p5⟩) (hy : ∀ w, S w → (execOp a.eval ⟨some n, p1, p2, p3, p4, p5⟩).run P w = .ok (.value v) w) (hS : S w) (h : wpAnyH P md ops Q S fuel (listed.setIfInBounds i true) (a.put (some n) v) w)
  (hs : Region.noSelect ops = true := by kernel_rfl) (hf : Region.free md ops listed i = true := by kernel_rfl) (hr : (Region.ready md ops listed).contains i = true := by kernel_rfl)
  (hQ : ∀ c a w, Q (.panic c) (a.put (some n) v) w → Q (.panic c) a w := by exact fun _ _ _ h => h)
  (hg : Region.wanted ⟨some n, p1, p2, p3, p4, p5⟩ (yielded ops a.tmps) = true := by rfl) : wpAnyH P md ops Q S (fuel + 1) listed a w :=
 wpAnyH_take (v := v) hi hs hf hr hQ (Or.inl ⟨hg, hy⟩) hS h
/-- what a step leaves of a register that lives: the last number, the cells -/
def Rise7 (r x : RegP) : Prop := (x.ki = 1 → r.la ≤ x.la) ∧ ∀ c ∈ x.ou, c ∈ r.ou ∨ r.la < c.1

theorem Rise7.same {r x : RegP} (h1 : x.la = r.la) (h2 : x.ou = r.ou) : Rise7 r x := ⟨fun _ => by omega, fun c hc => .inl (h2 ▸ hc)⟩

theorem fire_rise7 {ts tv : Int} {tl : List RuM} {r : RegP} {ac pa ar : Int} : Rise7 r (fireG ts tv tl r ac pa ar).1 := by
 unfold fireG
 split
 ·split
  split
  ·split
   ·refine ⟨fun _ => ?_, fun c hc => ?_⟩
    ·show r.la ≤ r.la + _
     omega
    ·rcases List.mem_append.1 hc with h | h
     ·exact .inl h
     ·exact .inr (numG_ris _ _ c h).1
   ·exact .same rfl rfl
  ·exact .same rfl rfl
 ·exact .same rfl rfl

theorem do_rise7 {ts tv : Int} {tl : List RuM} {r : RegP} {o : OpM} {cn : Int} (h1 : r.ki = 1) : Rise7 r (doG ts tv tl r o cn).1 := by
 unfold doG
 split
 ·unfold createG
  rw [if_pos h1]
  exact .same rfl rfl
 split
 ·exact fire_rise7
 split
 ·unfold readG
  split <;> exact .same rfl rfl
 split
 ·unfold removeG
  rw [if_pos h1]
  split
  ·exact ⟨fun h => absurd (show (2 : Int) = 1 from h) (by decide), fun c hc => nomatch hc⟩
  ·exact .same rfl rfl
 split
 ·unfold consumeG
  split
  ·exact .same rfl rfl
  ·exact ⟨(fire_rise7 (ts := ts) (tv := tv) (tl := tl) (r := r) (ac := o.ac) (pa := 0) (ar := o.ar)).1, (fire_rise7 (ts := ts) (tv := tv) (tl := tl) (r := r) (ac := o.ac) (pa := 0) (ar := o.ar)).2⟩
 split
 ·unfold clearG
  split
  ·exact ⟨fun _ => Int.le_refl _, fun c hc => .inl (List.mem_filter.1 hc).1⟩
  ·exact .same rfl rfl
 ·exact .same rfl rfl

theorem note_cells {r : RegP} {o : OpM} {p : RepP} : (noteG r o p).la = r.la ∧ (noteG r o p).ou = r.ou ∧ (noteG r o p).ki = r.ki := by
 unfold noteG
 split
 ·exact ⟨rfl, rfl, rfl⟩
 ·split <;> exact ⟨rfl, rfl, rfl⟩

/-- what an operation does to a register that lives -/
theorem apply_rise7 {ts tv : Int} {tl : List RuM} {r : RegP} {o : OpM} {cn : Int} (h1 : r.ki = 1) : Rise7 r (applyG ts tv tl r o cn).1 := by
 unfold applyG
 cases againG r.dn o with
 | some p => exact .same rfl rfl
 | none =>
  show Rise7 r (noteG _ _ _)
  have hd := do_rise7 (ts := ts) (tv := tv) (tl := tl) (r := r) (o := o) (cn := cn) h1
  have hn := note_cells (r := (doG ts tv tl r o cn).1) (o := o) (p := replyG (doG ts tv tl r o cn).1 (doG ts tv tl r o cn).2)
  exact ⟨fun h => by rw [hn.1]; exact hd.1 (hn.2.2 ▸ h), fun c hc => hd.2 c (hn.2.1 ▸ hc)⟩
end Go.Proofs.YtpiikdinphnjbaaGreat
namespace Go.Proofs.YtpiikdinphnjbaaGreat.engineCells
open Go.ChangeShapes Go.WideShapes Go.ChangeAt Go.RowKit

theorem mem_take7 {α : Type} {l : List α} {c : α} {j : Nat} (h : j < l.length) : c ∈ l.take (j + 1) ↔ c ∈ l.take j ∨ l[j] = c := by
 rw [List.take_add_one, List.getElem?_eq_getElem h]
 simp only [Option.toList_some, List.mem_append, List.mem_singleton]
 exact ⟨fun h => h.imp_right Eq.symm, fun h => h.imp_right Eq.symm⟩
theorem free7 {w : World} {g : Nat} {cs : Array Value} {t : TypeId} (h : BoxAt w g cs t) (i : Nat) : w.frozen? ⟨g, i, none⟩ = false := by
 unfold BoxAt at h
 simp [World.frozen?, h]
theorem box_far7 {w w' : World} {g b : Nat} {cs : Array Value} {t : TypeId} (hg : w.grownBy w' (some g)) (hb : BoxAt w b cs t) (hne : g ≠ b) : BoxAt w' b cs t :=
 (hg.block b hb.lt (fun e => by injection e with e; exact hne e.symm)).trans hb

set_option maxRecDepth 100000 in
set_option maxHeartbeats 12800000 in
set_option linter.unusedSimpArgs false in
theorem walk (ts tv : Int) (t : Sl RuM) (r : RegM) (l : Sl OpM) (cn : Int) (w : World) (ht : rusOk w w.heap.size t) (hr : RegM.ok w w.heap.size r) (hl : opsOk w w.heap.size l) (hc : U64 cn) :
  Calls Tryz.prog 5 #[tabV ts tv t, r.v, l.v, .int .u64 cn] w fun e w' => e = .returned (.bool true) ∧ Below w.heap.size w w' := by
 have RU := fun (u : World) (h : Below w.heap.size w u) => reg_stable.below hr h
 have TU := fun (u : World) (h : Below w.heap.size w u) => rus_stable.below ht h
 have LU := hide_ (fun (u : World) (h : Below w.heap.size w u) => ops_stable.below hl h)
 have HG := hide_ (fun (u : World) (h : Below w.heap.size w u) => great7_any ts tv t r w.heap.size u (TU u h) (RU u h) h.size)
 have HA := hide_ (fun (u : World) => awake07_any u)
 have HRX := hide_ (fun (u : World) (x : RegM) (o : OpM) (c : Int) (h : Below w.heap.size w u) (hx : RegM.ok u u.heap.size x) (ho : OpM.ok o) => refRight_any ts tv t x o c u.heap.size u (rus_stable.more (TU u h) h.size) hx ho (Nat.le_refl _))
 have HAX := hide_ (fun (u : World) (x : RegM) (o : OpM) (c : Int) (h : Below w.heap.size w u) (hx : RegM.ok u u.heap.size x) (ho : OpM.ok o) (hc : U64 c) (hq : rightB ts tv t.l x.p o c = true) =>
  show Calls Tryz.prog 8 #[tabV ts tv t, x.v, o.v, .int .u64 c] u (Applies (applyG ts tv t.l x.p o c) 0 u) from by
   have hl := lens_of (rightB_lens hq).1
   exact apply_right ts tv t x o c u.heap.size u (rus_stable.more (TU u h) h.size) hx ho hc (Nat.le_refl _) hq hl.1 hl.2.1 hl.2.2.1 hl.2.2.2.1 hl.2.2.2.2)
 obtain ⟨hl1, hl2, -, hlo⟩ := hl
 have HLO := hide_ hlo
 have HC := hide_ hc
 have HRU := hide_ RU
 have hn63 : l.l.length ≤ 9223372036854775807 := by unfold maxLen at hl2; omega
 clear RU TU ht hr hlo hc hl2
 obtain ⟨lA, lc, ll⟩ := l
 simp only at hl1 hn63 HLO
 simp only [tabV, RegM.v, OpM.v, Sl.v] at HG HRX HAX ⊢
 obtain ⟨W0, hW0⟩ : ∃ W0, (w.alloc (.cells #[.int .i64 ts, .int .i64 tv, .slice t.A t.l.length t.c] 24)).alloc (.cells #[.int .u8 r.ki, .int .u64 r.inc, .int .i64 r.st, .slice r.va.A r.va.l.length r.va.c, .slice r.dn.A r.dn.l.length r.dn.c, .slice r.ou.A r.ou.l.length r.ou.c, .int .u64 r.la, .slice r.ma.A r.ma.l.length r.ma.c] 31) = W0 := ⟨_, rfl⟩
 have HXT := hide_ (show BoxAt W0 w.heap.size #[.int .i64 ts, .int .i64 tv, .slice t.A t.l.length t.c] 24 from hW0 ▸ (BoxAt.new w _ _).alloc _)
 have HXR := hide_ (show BoxAt W0 (w.heap.size + 1) #[.int .u8 r.ki, .int .u64 r.inc, .int .i64 r.st, .slice r.va.A r.va.l.length r.va.c, .slice r.dn.A r.dn.l.length r.dn.c, .slice r.ou.A r.ou.l.length r.ou.c, .int .u64 r.la, .slice r.ma.A r.ma.l.length r.ma.c] 31 from by
  have h := BoxAt.new (w.alloc (.cells #[.int .i64 ts, .int .i64 tv, .slice t.A t.l.length t.c] 24)) #[.int .u8 r.ki, .int .u64 r.inc, .int .i64 r.st, .slice r.va.A r.va.l.length r.va.c, .slice r.dn.A r.dn.l.length r.dn.c, .slice r.ou.A r.ou.l.length r.ou.c, .int .u64 r.la, .slice r.ma.A r.ma.l.length r.ma.c] 31
  rw [hW0] at h
  simpa using h)
 have HB0 := hide_ (show Below w.heap.size w W0 from hW0 ▸ ((Below.refl _ _).alloc (Nat.le_refl _) _).alloc (by simp) _)
 have HW0 := hide_ hW0
 clear hW0
 obtain ⟨n, hn⟩ : ∃ n, ll.length = n := ⟨_, rfl⟩
 rw [hn] at hl1 hn63 ⊢
 have HN := hide_ hn
 clear hn
 go_enter Tryz.func5, Tryz.ntmps5
 go_upto_region 1 with fail
 rw [HW0.out]
 have hct := HXT.out.cell
 have hcr := HXR.out.cell
 have zt := HXT.out.lt
 have zr := HXR.out.lt
 go_wp2_with fail
 clear hct hcr zt zr
 refine (HG.out _ HB0.out).mono ?_
 rintro e1 w1 ⟨b1, rfl, hb1, hlen⟩
 have HB1 := hide_ (HB0.out.trans (hb1.mono HB0.out.size))
 have HT1 := hide_ (HXT.out.below hb1)
 have HR1 := hide_ (HXR.out.below hb1)
 clear hb1 hlen
 cases b1 with
 | true =>
  go_wp2_with fail
  refine (HA.out _).mono ?_
  rintro e3 w3 ⟨rfl, hb3⟩
  have HB3 := hide_ (HB1.out.trans (hb3.mono HB1.out.size))
  go_wp2
  go_ret
  exact ⟨rfl, HB3.out⟩
 | false =>
 by_cases h40 : 40 < n
 case pos =>
  go_wp2_with fail
  refine (HA.out _).mono ?_
  rintro e3 w3 ⟨rfl, hb3⟩
  have HB3 := hide_ (HB1.out.trans (hb3.mono HB1.out.size))
  go_wp2
  go_ret
  exact ⟨rfl, HB3.out⟩
 by_cases hc60 : 1152921504606846976 < cn
 case pos =>
  go_wp2_with fail
  refine (HA.out _).mono ?_
  rintro e3 w3 ⟨rfl, hb3⟩
  have HB3 := hide_ (HB1.out.trans (hb3.mono HB1.out.size))
  go_wp2
  go_ret
  exact ⟨rfl, HB3.out⟩
 have hcn0 := HC.out.1
 obtain ⟨W4, hW4⟩ : ∃ W4, w1.alloc (.cells #[.int .u8 r.ki, .int .u64 r.inc, .int .i64 r.st, .slice r.va.A r.va.l.length r.va.c, .slice r.dn.A r.dn.l.length r.dn.c, .slice r.ou.A r.ou.l.length r.ou.c, .int .u64 r.la, .slice r.ma.A r.ma.l.length r.ma.c] 31) = W4 := ⟨_, rfl⟩
 have hb4 : Below w1.heap.size w1 W4 := hW4 ▸ (Below.refl _ _).alloc (Nat.le_refl _) _
 have HX4 := hide_ (show BoxAt W4 w1.heap.size #[.int .u8 r.ki, .int .u64 r.inc, .int .i64 r.st, .slice r.va.A r.va.l.length r.va.c, .slice r.dn.A r.dn.l.length r.dn.c, .slice r.ou.A r.ou.l.length r.ou.c, .int .u64 r.la, .slice r.ma.A r.ma.l.length r.ma.c] 31 from hW4 ▸ BoxAt.new w1 _ _)
 have HT4 := hide_ (HT1.out.below hb4)
 have HB4 := hide_ (HB1.out.trans (hb4.mono HB1.out.size))
 have HA4 := hide_ (show Aside7 W4 w1.heap.size r from Aside7.low (HRU.out _ HB4.out) HB1.out.size HB4.out.size)
 have hs3 : w.heap.size + 1 < w1.heap.size := HR1.out.lt
 have HW4 := hide_ hW4
 clear hW4 hb4 HG
 have hcr := HR1.out.cell
 have zr := HR1.out.lt
 go_upto_region 4 with fail
 rw [HW4.out]
 clear hcr zr
 have hzX : w1.heap.size < W4.heap.size := HX4.out.lt
 obtain ⟨zx, hzx⟩ : ∃ z, w1.heap.size = z := ⟨_, rfl⟩
 rw [hzx] at HX4 HA4 hs3 hzX ⊢
 have HCE := hide_ (fun (u : World) (h : Below w.heap.size w u) => show Sees u w.heap.size lA (ll.flatMap OpM.cs) from (LU.out u h).2.2.1)
 clear hzx HT1 HR1 HB1 LU HW4 HRU HXT HXR HB0 HW0
 go_wp2_with fail
 go_loopw [10] (fun i wx => ∃ (k : Nat) (x : RegM), k ≤ n ∧ i = .int .i64 k ∧ Hid (BoxAt wx zx #[.int .u8 x.ki, .int .u64 x.inc, .int .i64 x.st, .slice x.va.A x.va.l.length x.va.c, .slice x.dn.A x.dn.l.length x.dn.c, .slice x.ou.A x.ou.l.length x.ou.c, .int .u64 x.la, .slice x.ma.A x.ma.l.length x.ma.c] 31) ∧ Hid (Aside7 wx zx x) ∧ Hid (BoxAt wx w.heap.size #[.int .i64 ts, .int .i64 tv, .slice t.A t.l.length t.c] 24) ∧ Hid (Below w.heap.size w wx)) (fun i _ => n - (intOf i).toNat)
 case atStart => exact ⟨0, r, by omega, rfl, HX4, HA4, HT4, HB4⟩
 case round =>
  clear HX4 HA4 HT4 HB4
  obtain ⟨k, x, hk, rfl, HX, HXA, HT, HB⟩ := hrel
  have hzr : zx < wr.heap.size := HX.out.lt
  by_cases hlt : k < n
  case neg =>
   obtain rfl : n = k := by omega
   go_wp2_with fail
   refine (HA.out _).mono ?_
   rintro e5 w5 ⟨rfl, hb5⟩
   have HB6 := hide_ (HB.out.trans (hb5.mono HB.out.size))
   clear hb5
   go_wp2
   go_ret
   exact ⟨rfl, HB6.out⟩
  have hkl : k < ll.length := by rw [HN.out]; exact hlt
  obtain ⟨ob, oo, rfl, hobB, q0, q1, q2, q3, q4, q5, q6, q7, q8, q9⟩ := (HCE.out _ HB.out).op7 (List.getElem?_eq_getElem hkl)
  have hoi := HLO.out _ (List.getElem_mem hkl)
  obtain ⟨oi, hoe⟩ : ∃ o, ll[k] = o := ⟨_, rfl⟩
  rw [hoe] at q0 q1 q2 q3 q4 q5 q6 q7 q8 q9 hoi
  have HOI := hide_ (show OpM.ok oi from hoi)
  clear hoe hoi hkl
  have hszw : w.heap.size ≤ wr.heap.size := HB.out.size
  have hobr : ob < wr.heap.size := by omega
  have HCO := hide_ (fun (u : World) (hu : Below wr.heap.size wr u) => show u.cell? ⟨ob, oo + k * 10, none⟩ = some (.int .u8 oi.ki) ∧ u.cell? ⟨ob, oo + k * 10 + 1, none⟩ = some (.int .u8 oi.ke) ∧ u.cell? ⟨ob, oo + k * 10 + 2, none⟩ = some (.int .u8 oi.cl) ∧ u.cell? ⟨ob, oo + k * 10 + 3, none⟩ = some (.int .u64 oi.sq) ∧ u.cell? ⟨ob, oo + k * 10 + 4, none⟩ = some (.int .i64 oi.ac) ∧ u.cell? ⟨ob, oo + k * 10 + 5, none⟩ = some (.int .i64 oi.pa) ∧ u.cell? ⟨ob, oo + k * 10 + 6, none⟩ = some (.int .i64 oi.ar) ∧ u.cell? ⟨ob, oo + k * 10 + 7, none⟩ = some (.int .u8 oi.so) ∧ u.cell? ⟨ob, oo + k * 10 + 8, none⟩ = some (.int .u64 oi.inc) ∧ u.cell? ⟨ob, oo + k * 10 + 9, none⟩ = some (.int .u64 oi.ce) from
   ⟨(hu.cell (p := ⟨ob, oo + k * 10, none⟩) hobr).trans q0, (hu.cell (p := ⟨ob, oo + k * 10 + 1, none⟩) hobr).trans q1, (hu.cell (p := ⟨ob, oo + k * 10 + 2, none⟩) hobr).trans q2, (hu.cell (p := ⟨ob, oo + k * 10 + 3, none⟩) hobr).trans q3, (hu.cell (p := ⟨ob, oo + k * 10 + 4, none⟩) hobr).trans q4, (hu.cell (p := ⟨ob, oo + k * 10 + 5, none⟩) hobr).trans q5, (hu.cell (p := ⟨ob, oo + k * 10 + 6, none⟩) hobr).trans q6, (hu.cell (p := ⟨ob, oo + k * 10 + 7, none⟩) hobr).trans q7, (hu.cell (p := ⟨ob, oo + k * 10 + 8, none⟩) hobr).trans q8, (hu.cell (p := ⟨ob, oo + k * 10 + 9, none⟩) hobr).trans q9⟩)
  have HCT := hide_ (fun (u : World) (hu : Below wr.heap.size wr u) => (HT.out.below hu).cell)
  have HCX := hide_ (fun (u : World) (hu : Below wr.heap.size wr u) => (HX.out.below hu).cell)
  have zt := HT.out.lt
  have hcnt : cn + (k : Int) ≤ 18446744073709551615 := by omega
  have hcn1 : U64 (cn + (k : Int)) := by unfold U64; omega
  have HCK := hide_ hcn1
  clear q0 q1 q2 q3 q4 q5 q6 q7 q8 q9 hcn1
  have hcn40 : IntKind.u64.wrap (cn + (k : Int)) = cn + (k : Int) := by simp [IntKind.wrap, IntKind.bits, IntKind.signed]; omega
  have hk40 : IntKind.u64.wrap (k : Int) = (k : Int) := by simp [IntKind.wrap, IntKind.bits, IntKind.signed]; omega
  have HA2 := HA
  clear HA
  go_upto_region 7 with fail
  refine wp_region_held_drew (S := fun u => Below wr.heap.size wr u) (by kernel_rfl) ((Below.refl _ _).drew) (fun hHeld => ?_)
  refine tkY 0 37 ?hv1 rfl ?hyy1 (by assumption) ?hrest1
  case hyy1 => intro w hSw; (try dsimp only at hSw); have hct := HCT.out _ hSw; go_simp <;> with_reducible rfl
  simp only [Act.put, List.setIfInBounds_toArray, List.set_cons_zero, List.set_cons_succ]
  refine tkY 1 38 ?hv2 rfl ?hyy2 (by assumption) ?hrest2
  case hyy2 => intro w hSw; (try dsimp only at hSw); have hcx := HCX.out _ hSw; go_simp <;> with_reducible rfl
  simp only [Act.put, List.setIfInBounds_toArray, List.set_cons_zero, List.set_cons_succ]
  refine tkY 2 39 ?hv3 rfl ?hyy3 (by assumption) ?hrest3
  case hyy3 => intro w hSw; (try dsimp only at hSw); go_simp <;> with_reducible rfl
  simp only [Act.put, List.setIfInBounds_toArray, List.set_cons_zero, List.set_cons_succ]
  refine tkY 3 40 ?hv4 rfl ?hyy4 (by assumption) ?hrest4
  case hyy4 => intro w hSw; (try dsimp only at hSw); go_simp <;> with_reducible rfl
  simp only [Act.put, List.setIfInBounds_toArray, List.set_cons_zero, List.set_cons_succ]
  refine tkY 4 41 ?hv5 rfl ?hyy5 (by assumption) ?hrest5
  case hyy5 => intro w hSw; (try dsimp only at hSw); go_simp <;> with_reducible rfl
  simp only [Act.put, List.setIfInBounds_toArray, List.set_cons_zero, List.set_cons_succ]
  refine tkY 5 42 ?hv6 rfl ?hyy6 (by assumption) ?hrest6
  case hyy6 => intro w hSw; (try dsimp only at hSw); obtain ⟨q0, q1, q2, q3, q4, q5, q6, q7, q8, q9⟩ := HCO.out _ hSw; go_simp <;> with_reducible rfl
  simp only [Act.put, List.setIfInBounds_toArray, List.set_cons_zero, List.set_cons_succ]
  refine tkY 6 43 ?hv7 rfl ?hyy7 (by assumption) ?hrest7
  case hyy7 => intro w hSw; (try dsimp only at hSw); go_simp <;> with_reducible rfl
  simp only [Act.put, List.setIfInBounds_toArray, List.set_cons_zero, List.set_cons_succ]
  refine tkY 7 44 ?hv8 rfl ?hyy8 (by assumption) ?hrest8
  case hyy8 => intro w hSw; (try dsimp only at hSw); go_simp <;> with_reducible rfl
  simp only [Act.put, List.setIfInBounds_toArray, List.set_cons_zero, List.set_cons_succ]
  refine tkY 8 45 ?hv9 rfl ?hyy9 (by assumption) ?hrest9
  case hyy9 => intro w hSw; (try dsimp only at hSw); go_simp <;> with_reducible rfl
  simp only [Act.put, List.setIfInBounds_toArray, List.set_cons_zero, List.set_cons_succ]
  refine tkY 9 46 ?hv10 rfl ?hyy10 (by assumption) ?hrest10
  case hyy10 => intro w hSw; (try dsimp only at hSw); go_simp <;> with_reducible rfl
  simp only [Act.put, List.setIfInBounds_toArray, List.set_cons_zero, List.set_cons_succ]
  refine wpAnyH_ready (rs := [10]) (by kernel_rfl) (by simp) ?_
  refine AllReadyH.cons rfl (fun K hK => ?_) AllReadyH.nil
  go_simp
  go_wp2_with fail
  refine (HRX.out _ x oi (cn + (k : Int)) (HB.out.trans (hHeld.mono HB.out.size)) (HXA.out.step hHeld).ok HOI.out).mono ?_
  rintro e v1 ⟨rfl, hb_⟩
  have HP_v1 := hide_ (hHeld.trans (hb_.mono hHeld.size))
  clear hb_
  refine hK.out _ _ (HP_v1.out) (fun hHeld => ?_)
  clear hK K hHeld
  refine wpAnyH_more (S' := fun u => Below v1.heap.size v1 u) (fun u hu => HP_v1.out.trans (hu.mono HP_v1.out.size)) _ _ _ _ ?_
  have hHeld := Below.refl v1.heap.size v1
  refine tkY 11 48 ?hv11 rfl ?hyy11 (by assumption) ?hrest11
  case hyy11 => intro w hSw; (try dsimp only at hSw); go_simp <;> with_reducible rfl
  simp only [Act.put, List.setIfInBounds_toArray, List.set_cons_zero, List.set_cons_succ]
  refine wpAnyH_done (by kernel_rfl) ?_ _
  obtain ⟨qr, hqr⟩ : ∃ q, rightB ts tv t.l x.p oi (cn + (k : Int)) = q := ⟨_, rfl⟩
  have HQK := hide_ hqr
  rw [hqr]
  clear hqr
  cases qr with
  | false =>
   have HX1 := hide_ (HX.out.below HP_v1.out)
   have HXA1 := hide_ (HXA.out.step HP_v1.out)
   have HT1 := hide_ (HT.out.below HP_v1.out)
   have HB1 := hide_ (HB.out.trans (HP_v1.out.mono HB.out.size))
   go_wp2_with fail
   go_roundw
   case rel => exact ⟨k + 1, x, by omega, by go_num, HX1, HXA1, HT1, HB1⟩
   case measure => simp [intOf]; omega
  | true =>
  have HA := HA2
  clear HA2
  go_upto_region 8 with fail
  go_cut [11, 13] (fun pb pe wx => ∃ (y : RegM) (b15 : Nat), pb = .pointer (some ⟨b15, 0, none⟩) ∧ pe = .int .i64 0 ∧ wr.heap.size ≤ b15 ∧ Hid (BoxAt wx b15 #[.int .u8 y.ki, .int .u64 y.inc, .int .i64 y.st, .slice y.va.A y.va.l.length y.va.c, .slice y.dn.A y.dn.l.length y.dn.c, .slice y.ou.A y.ou.l.length y.ou.c, .int .u64 y.la, .slice y.ma.A y.ma.l.length y.ma.c] 31) ∧ Hid (y.p = (applyG ts tv t.l x.p oi (cn + (k : Int))).1) ∧ Hid (Fresh wx wr.heap.size y) ∧ Hid (Below wr.heap.size wr wx))
  case first =>
   refine wp_region_held_drew (S := fun u => Below wr.heap.size wr u) (by kernel_rfl) (HP_v1.out.drew) (fun hHeld => ?_)
   generalize v1.drew = u0 at hHeld ⊢
   refine tkY 0 50 ?hv12 rfl ?hyy12 (by assumption) ?hrest12
   case hyy12 => intro w hSw; (try dsimp only at hSw); have hct := HCT.out _ hSw; go_simp <;> with_reducible rfl
   simp only [Act.put, List.setIfInBounds_toArray, List.set_cons_zero, List.set_cons_succ]
   refine tkY 1 51 ?hv13 rfl ?hyy13 (by assumption) ?hrest13
   case hyy13 => intro w hSw; (try dsimp only at hSw); have hcx := HCX.out _ hSw; go_simp <;> with_reducible rfl
   simp only [Act.put, List.setIfInBounds_toArray, List.set_cons_zero, List.set_cons_succ]
   refine tkY 2 52 ?hv14 rfl ?hyy14 (by assumption) ?hrest14
   case hyy14 => intro w hSw; (try dsimp only at hSw); go_simp <;> with_reducible rfl
   simp only [Act.put, List.setIfInBounds_toArray, List.set_cons_zero, List.set_cons_succ]
   refine tkY 3 53 ?hv15 rfl ?hyy15 (by assumption) ?hrest15
   case hyy15 => intro w hSw; (try dsimp only at hSw); go_simp <;> with_reducible rfl
   simp only [Act.put, List.setIfInBounds_toArray, List.set_cons_zero, List.set_cons_succ]
   refine tkY 4 54 ?hv16 rfl ?hyy16 (by assumption) ?hrest16
   case hyy16 => intro w hSw; (try dsimp only at hSw); go_simp <;> with_reducible rfl
   simp only [Act.put, List.setIfInBounds_toArray, List.set_cons_zero, List.set_cons_succ]
   refine tkY 5 55 ?hv17 rfl ?hyy17 (by assumption) ?hrest17
   case hyy17 => intro w hSw; (try dsimp only at hSw); obtain ⟨q0, q1, q2, q3, q4, q5, q6, q7, q8, q9⟩ := HCO.out _ hSw; go_simp <;> with_reducible rfl
   simp only [Act.put, List.setIfInBounds_toArray, List.set_cons_zero, List.set_cons_succ]
   refine tkY 6 56 ?hv18 rfl ?hyy18 (by assumption) ?hrest18
   case hyy18 => intro w hSw; (try dsimp only at hSw); go_simp <;> with_reducible rfl
   simp only [Act.put, List.setIfInBounds_toArray, List.set_cons_zero, List.set_cons_succ]
   refine tkY 7 57 ?hv19 rfl ?hyy19 (by assumption) ?hrest19
   case hyy19 => intro w hSw; (try dsimp only at hSw); go_simp <;> with_reducible rfl
   simp only [Act.put, List.setIfInBounds_toArray, List.set_cons_zero, List.set_cons_succ]
   refine tkY 8 58 ?hv20 rfl ?hyy20 (by assumption) ?hrest20
   case hyy20 => intro w hSw; (try dsimp only at hSw); go_simp <;> with_reducible rfl
   simp only [Act.put, List.setIfInBounds_toArray, List.set_cons_zero, List.set_cons_succ]
   refine tkY 9 59 ?hv21 rfl ?hyy21 (by assumption) ?hrest21
   case hyy21 => intro w hSw; (try dsimp only at hSw); go_simp <;> with_reducible rfl
   simp only [Act.put, List.setIfInBounds_toArray, List.set_cons_zero, List.set_cons_succ]
   refine wpAnyH_ready (rs := [10, 15, 16]) (by kernel_rfl) (by simp) ?_
   refine AllReadyH.cons rfl (fun K hK => ?_) (AllReadyH.cons rfl (fun K hK => ?_) (AllReadyH.cons rfl (fun K hK => ?_) AllReadyH.nil))
   ·go_simp
    go_wp2_with fail
    refine (HAX.out _ x oi (cn + (k : Int)) (HB.out.trans (hHeld.mono HB.out.size)) (HXA.out.step hHeld).ok HOI.out HCK.out HQK.out).mono ?_
    rintro e u1 ⟨y, p, rfl, hyp, hpp, hfr, hpn, hpv, hb_⟩
    have HPC := hide_ (hHeld.trans (hb_.mono hHeld.size))
    have HYP := hide_ hyp
    have HF := hide_ (hfr.less hHeld.size)
    clear hyp hpp hfr hpn hpv hb_
    simp only [RegM.v, RepM.v, Sl.v]
    refine hK.out _ _ HPC.out (fun hHeld => ?_)
    clear hK K
    refine tkY 11 49 ?hv22 rfl ?hyy22 (by assumption) ?hrest22
    case hyy22 => intro w hSw; (try dsimp only at hSw); go_simp <;> with_reducible rfl
    simp only [Act.put, List.setIfInBounds_toArray, List.set_cons_zero, List.set_cons_succ]
    refine tkY 12 61 ?hv23 rfl ?hyy23 (by assumption) ?hrest23
    case hyy23 => intro w hSw; (try dsimp only at hSw); go_simp <;> with_reducible rfl
    simp only [Act.put, List.setIfInBounds_toArray, List.set_cons_zero, List.set_cons_succ]
    refine tkY 13 62 ?hv24 rfl ?hyy24 (by assumption) ?hrest24
    case hyy24 => intro w hSw; (try dsimp only at hSw); go_simp <;> with_reducible rfl
    simp only [Act.put, List.setIfInBounds_toArray, List.set_cons_zero, List.set_cons_succ]
    refine tkY 14 63 ?hv25 rfl ?hyy25 (by assumption) ?hrest25
    case hyy25 => intro w hSw; (try dsimp only at hSw); go_simp <;> with_reducible rfl
    simp only [Act.put, List.setIfInBounds_toArray, List.set_cons_zero, List.set_cons_succ]
    refine wpAnyH_ready (rs := [15, 16]) (by kernel_rfl) (by simp) ?_
    refine AllReadyH.cons rfl (fun K hK => ?_) (AllReadyH.cons rfl (fun K hK => ?_) AllReadyH.nil)
    ·go_simp
     obtain ⟨u2, hu⟩ : ∃ v, u1.alloc (.cells #[.int .u8 0, .int .u64 0, .int .i64 0, .slice none 0 0, .slice none 0 0, .slice none 0 0, .int .u64 0, .slice none 0 0] 31) = v := ⟨_, rfl⟩
     rw [hu]
     have hbl : Below u1.heap.size u1 u2 := hu ▸ (Below.refl _ _).alloc (Nat.le_refl _) _
     have HPA := hide_ (hHeld.trans (hbl.mono hHeld.size))
     have HBA := hide_ (show BoxAt u2 u1.heap.size #[.int .u8 0, .int .u64 0, .int .i64 0, .slice none 0 0, .slice none 0 0, .slice none 0 0, .int .u64 0, .slice none 0 0] 31 from hu ▸ BoxAt.new u1 _ _)
     have hgA : wr.heap.size ≤ u1.heap.size := hHeld.size
     replace HF := hide_ (HF.out.below hbl)
     clear hbl hu
     obtain ⟨bA, hbA⟩ : ∃ b, u1.heap.size = b := ⟨_, rfl⟩
     rw [hbA] at HBA hgA ⊢
     clear hbA
     refine hK.out _ _ HPA.out (fun hHeld => ?_)
     clear hK K
     refine wpAnyH_ready (rs := [16]) (by kernel_rfl) (by simp) ?_
     refine AllReadyH.cons rfl (fun K hK => ?_) AllReadyH.nil
     go_simp
     obtain ⟨u3, hu⟩ : ∃ v, u2.alloc (.cells #[.int .i64 0, .int .u64 0, .int .i64 0, .slice none 0 0] 38) = v := ⟨_, rfl⟩
     rw [hu]
     have hbl : Below u2.heap.size u2 u3 := hu ▸ (Below.refl _ _).alloc (Nat.le_refl _) _
     have HPA := hide_ (hHeld.trans (hbl.mono hHeld.size))
     have HBB := hide_ (show BoxAt u3 u2.heap.size #[.int .i64 0, .int .u64 0, .int .i64 0, .slice none 0 0] 38 from hu ▸ BoxAt.new u2 _ _)
     have hgB : wr.heap.size ≤ u2.heap.size := hHeld.size
     have hlo := HBA.out.lt
     replace HBA := hide_ (HBA.out.below hbl)
     replace HF := hide_ (HF.out.below hbl)
     clear hbl hu
     obtain ⟨bB, hbB⟩ : ∃ b, u2.heap.size = b := ⟨_, rfl⟩
     rw [hbB] at HBB hgB hlo ⊢
     have hne : bA ≠ bB := by omega
     clear hbB
     refine hK.out _ _ HPA.out (fun hHeld => ?_)
     clear hK K
     have q0 := (HBA.out.cell 0).trans (show _ = some (.int .u8 0) from rfl)
     have q1 := (HBA.out.cell 1).trans (show _ = some (.int .u64 0) from rfl)
     have q2 := (HBA.out.cell 2).trans (show _ = some (.int .i64 0) from rfl)
     have q3 := (HBA.out.cell 3).trans (show _ = some (.slice none 0 0) from rfl)
     have q4 := (HBA.out.cell 4).trans (show _ = some (.slice none 0 0) from rfl)
     have q5 := (HBA.out.cell 5).trans (show _ = some (.slice none 0 0) from rfl)
     have q6 := (HBA.out.cell 6).trans (show _ = some (.int .u64 0) from rfl)
     have q7 := (HBA.out.cell 7).trans (show _ = some (.slice none 0 0) from rfl)
     have f0 := free7 HBA.out 0
     have f1 := free7 HBA.out 1
     have f2 := free7 HBA.out 2
     have f3 := free7 HBA.out 3
     have f4 := free7 HBA.out 4
     have f5 := free7 HBA.out 5
     have f6 := free7 HBA.out 6
     have f7 := free7 HBA.out 7
     have hla := HBA.out.lt
     refine wpAnyH_ready (rs := [17]) (by kernel_rfl) (by simp) ?_
     refine AllReadyH.cons rfl (fun K hK => ?_) AllReadyH.nil
     go_simp
     obtain ⟨us, hus⟩ : ∃ us, ((((((((u3.setCell ⟨bA, 0, none⟩ (.int .u8 y.ki)).setCell ⟨bA, 1, none⟩ (.int .u64 y.inc)).setCell ⟨bA, 2, none⟩ (.int .i64 y.st)).setCell ⟨bA, 3, none⟩ (.slice y.va.A y.va.l.length y.va.c)).setCell ⟨bA, 4, none⟩ (.slice y.dn.A y.dn.l.length y.dn.c)).setCell ⟨bA, 5, none⟩ (.slice y.ou.A y.ou.l.length y.ou.c)).setCell ⟨bA, 6, none⟩ (.int .u64 y.la)).setCell ⟨bA, 7, none⟩ (.slice y.ma.A y.ma.l.length y.ma.c)) = us := ⟨_, rfl⟩
     rw [hus]
     have HGS := hide_ (show u3.grownBy us (some bA) from hus ▸ (grown_set (grown_set (grown_set (grown_set (grown_set (grown_set (grown_set (grown_set (World.grownBy.refl u3 (some bA)) 0 (.int .u8 y.ki)) 1 (.int .u64 y.inc)) 2 (.int .i64 y.st)) 3 (.slice y.va.A y.va.l.length y.va.c)) 4 (.slice y.dn.A y.dn.l.length y.dn.c)) 5 (.slice y.ou.A y.ou.l.length y.ou.c)) 6 (.int .u64 y.la)) 7 (.slice y.ma.A y.ma.l.length y.ma.c)))
     have HBS := hide_ (show BoxAt us bA #[.int .u8 y.ki, .int .u64 y.inc, .int .i64 y.st, .slice y.va.A y.va.l.length y.va.c, .slice y.dn.A y.dn.l.length y.dn.c, .slice y.ou.A y.ou.l.length y.ou.c, .int .u64 y.la, .slice y.ma.A y.ma.l.length y.ma.c] 31 from by
      have h := (heap_set 7 (.slice y.ma.A y.ma.l.length y.ma.c) (heap_set 6 (.int .u64 y.la) (heap_set 5 (.slice y.ou.A y.ou.l.length y.ou.c) (heap_set 4 (.slice y.dn.A y.dn.l.length y.dn.c) (heap_set 3 (.slice y.va.A y.va.l.length y.va.c) (heap_set 2 (.int .i64 y.st) (heap_set 1 (.int .u64 y.inc) (heap_set 0 (.int .u8 y.ki) HBA.out))))))))
      rw [hus] at h
      simp only [List.setIfInBounds_toArray, List.set_cons_zero, List.set_cons_succ] at h
      exact h)
     have HPS := hide_ (show Below wr.heap.size wr us from hus ▸ ((((((((hHeld.setCell (hgA) (.int .u8 y.ki)).setCell (hgA) (.int .u64 y.inc)).setCell (hgA) (.int .i64 y.st)).setCell (hgA) (.slice y.va.A y.va.l.length y.va.c)).setCell (hgA) (.slice y.dn.A y.dn.l.length y.dn.c)).setCell (hgA) (.slice y.ou.A y.ou.l.length y.ou.c)).setCell (hgA) (.int .u64 y.la)).setCell (hgA) (.slice y.ma.A y.ma.l.length y.ma.c)))
     have HFS := hide_ (show Fresh us wr.heap.size y from HF.out.boxed7 HBA.out (by decide) (by decide) (by decide) (by decide) HGS.out)
     have HBC := hide_ (show BoxAt us bB #[.int .i64 0, .int .u64 0, .int .i64 0, .slice none 0 0] 38 from box_far7 HGS.out HBB.out hne)
     clear hus q0 f0 q1 f1 q2 f2 q3 f3 q4 f4 q5 f5 q6 f6 q7 f7 hla HGS HBA HBB HF
     refine hK.out _ _ HPS.out (fun hHeld => ?_)
     clear hK K
     have q0 := (HBC.out.cell 0).trans (show _ = some (.int .i64 0) from rfl)
     have q1 := (HBC.out.cell 1).trans (show _ = some (.int .u64 0) from rfl)
     have q2 := (HBC.out.cell 2).trans (show _ = some (.int .i64 0) from rfl)
     have q3 := (HBC.out.cell 3).trans (show _ = some (.slice none 0 0) from rfl)
     have f0 := free7 HBC.out 0
     have f1 := free7 HBC.out 1
     have f2 := free7 HBC.out 2
     have f3 := free7 HBC.out 3
     have hlb := HBC.out.lt
     refine wpAnyH_ready (rs := [18]) (by kernel_rfl) (by simp) ?_
     refine AllReadyH.cons rfl (fun K hK => ?_) AllReadyH.nil
     go_simp
     obtain ⟨ut, hut⟩ : ∃ ut, ((((us.setCell ⟨bB, 0, none⟩ (.int .i64 p.er)).setCell ⟨bB, 1, none⟩ (.int .u64 p.inc)).setCell ⟨bB, 2, none⟩ (.int .i64 p.st)).setCell ⟨bB, 3, none⟩ (.slice p.va.A p.va.l.length p.va.c)) = ut := ⟨_, rfl⟩
     rw [hut]
     have HGT := hide_ (show us.grownBy ut (some bB) from hut ▸ (grown_set (grown_set (grown_set (grown_set (World.grownBy.refl us (some bB)) 0 (.int .i64 p.er)) 1 (.int .u64 p.inc)) 2 (.int .i64 p.st)) 3 (.slice p.va.A p.va.l.length p.va.c)))
     have HPT := hide_ (show Below wr.heap.size wr ut from hut ▸ ((((hHeld.setCell (hgB) (.int .i64 p.er)).setCell (hgB) (.int .u64 p.inc)).setCell (hgB) (.int .i64 p.st)).setCell (hgB) (.slice p.va.A p.va.l.length p.va.c)))
     have HFT := hide_ (show Fresh ut wr.heap.size y from HFS.out.boxed7 HBC.out (by decide) (by decide) (by decide) (by decide) HGT.out)
     have HBT := hide_ (show BoxAt ut bA #[.int .u8 y.ki, .int .u64 y.inc, .int .i64 y.st, .slice y.va.A y.va.l.length y.va.c, .slice y.dn.A y.dn.l.length y.dn.c, .slice y.ou.A y.ou.l.length y.ou.c, .int .u64 y.la, .slice y.ma.A y.ma.l.length y.ma.c] 31 from box_far7 HGT.out HBS.out (Ne.symm hne))
     clear hut q0 f0 q1 f1 q2 f2 q3 f3 hlb HGT
     refine hK.out _ _ HPT.out (fun hHeld => ?_)
     clear hK K
     refine tkY 19 13 ?hv26 rfl ?hyy26 (by assumption) ?hrest26
     case hyy26 => intro w hSw; (try dsimp only at hSw); go_simp <;> with_reducible rfl
     simp only [Act.put, List.setIfInBounds_toArray, List.set_cons_zero, List.set_cons_succ]
     refine wpAnyH_done (by kernel_rfl) ?_ _
     go_wp2_with fail
     go_meet
     exact ⟨y, bA, rfl, rfl, hgA, HBT, HYP, HFT, HPT⟩
    ·go_simp
     obtain ⟨u4, hu⟩ : ∃ v, u1.alloc (.cells #[.int .i64 0, .int .u64 0, .int .i64 0, .slice none 0 0] 38) = v := ⟨_, rfl⟩
     rw [hu]
     have hbl : Below u1.heap.size u1 u4 := hu ▸ (Below.refl _ _).alloc (Nat.le_refl _) _
     have HPA := hide_ (hHeld.trans (hbl.mono hHeld.size))
     have HBB := hide_ (show BoxAt u4 u1.heap.size #[.int .i64 0, .int .u64 0, .int .i64 0, .slice none 0 0] 38 from hu ▸ BoxAt.new u1 _ _)
     have hgB : wr.heap.size ≤ u1.heap.size := hHeld.size
     replace HF := hide_ (HF.out.below hbl)
     clear hbl hu
     obtain ⟨bB, hbB⟩ : ∃ b, u1.heap.size = b := ⟨_, rfl⟩
     rw [hbB] at HBB hgB ⊢
     clear hbB
     refine hK.out _ _ HPA.out (fun hHeld => ?_)
     clear hK K
     refine wpAnyH_ready (rs := [15]) (by kernel_rfl) (by simp) ?_
     refine AllReadyH.cons rfl (fun K hK => ?_) AllReadyH.nil
     go_simp
     obtain ⟨u5, hu⟩ : ∃ v, u4.alloc (.cells #[.int .u8 0, .int .u64 0, .int .i64 0, .slice none 0 0, .slice none 0 0, .slice none 0 0, .int .u64 0, .slice none 0 0] 31) = v := ⟨_, rfl⟩
     rw [hu]
     have hbl : Below u4.heap.size u4 u5 := hu ▸ (Below.refl _ _).alloc (Nat.le_refl _) _
     have HPA := hide_ (hHeld.trans (hbl.mono hHeld.size))
     have HBA := hide_ (show BoxAt u5 u4.heap.size #[.int .u8 0, .int .u64 0, .int .i64 0, .slice none 0 0, .slice none 0 0, .slice none 0 0, .int .u64 0, .slice none 0 0] 31 from hu ▸ BoxAt.new u4 _ _)
     have hgA : wr.heap.size ≤ u4.heap.size := hHeld.size
     have hlo := HBB.out.lt
     replace HBB := hide_ (HBB.out.below hbl)
     replace HF := hide_ (HF.out.below hbl)
     clear hbl hu
     obtain ⟨bA, hbA⟩ : ∃ b, u4.heap.size = b := ⟨_, rfl⟩
     rw [hbA] at HBA hgA hlo ⊢
     have hne : bA ≠ bB := by omega
     clear hbA
     refine hK.out _ _ HPA.out (fun hHeld => ?_)
     clear hK K
     have q0 := (HBA.out.cell 0).trans (show _ = some (.int .u8 0) from rfl)
     have q1 := (HBA.out.cell 1).trans (show _ = some (.int .u64 0) from rfl)
     have q2 := (HBA.out.cell 2).trans (show _ = some (.int .i64 0) from rfl)
     have q3 := (HBA.out.cell 3).trans (show _ = some (.slice none 0 0) from rfl)
     have q4 := (HBA.out.cell 4).trans (show _ = some (.slice none 0 0) from rfl)
     have q5 := (HBA.out.cell 5).trans (show _ = some (.slice none 0 0) from rfl)
     have q6 := (HBA.out.cell 6).trans (show _ = some (.int .u64 0) from rfl)
     have q7 := (HBA.out.cell 7).trans (show _ = some (.slice none 0 0) from rfl)
     have f0 := free7 HBA.out 0
     have f1 := free7 HBA.out 1
     have f2 := free7 HBA.out 2
     have f3 := free7 HBA.out 3
     have f4 := free7 HBA.out 4
     have f5 := free7 HBA.out 5
     have f6 := free7 HBA.out 6
     have f7 := free7 HBA.out 7
     have hla := HBA.out.lt
     refine wpAnyH_ready (rs := [17]) (by kernel_rfl) (by simp) ?_
     refine AllReadyH.cons rfl (fun K hK => ?_) AllReadyH.nil
     go_simp
     obtain ⟨us, hus⟩ : ∃ us, ((((((((u5.setCell ⟨bA, 0, none⟩ (.int .u8 y.ki)).setCell ⟨bA, 1, none⟩ (.int .u64 y.inc)).setCell ⟨bA, 2, none⟩ (.int .i64 y.st)).setCell ⟨bA, 3, none⟩ (.slice y.va.A y.va.l.length y.va.c)).setCell ⟨bA, 4, none⟩ (.slice y.dn.A y.dn.l.length y.dn.c)).setCell ⟨bA, 5, none⟩ (.slice y.ou.A y.ou.l.length y.ou.c)).setCell ⟨bA, 6, none⟩ (.int .u64 y.la)).setCell ⟨bA, 7, none⟩ (.slice y.ma.A y.ma.l.length y.ma.c)) = us := ⟨_, rfl⟩
     rw [hus]
     have HGS := hide_ (show u5.grownBy us (some bA) from hus ▸ (grown_set (grown_set (grown_set (grown_set (grown_set (grown_set (grown_set (grown_set (World.grownBy.refl u5 (some bA)) 0 (.int .u8 y.ki)) 1 (.int .u64 y.inc)) 2 (.int .i64 y.st)) 3 (.slice y.va.A y.va.l.length y.va.c)) 4 (.slice y.dn.A y.dn.l.length y.dn.c)) 5 (.slice y.ou.A y.ou.l.length y.ou.c)) 6 (.int .u64 y.la)) 7 (.slice y.ma.A y.ma.l.length y.ma.c)))
     have HBS := hide_ (show BoxAt us bA #[.int .u8 y.ki, .int .u64 y.inc, .int .i64 y.st, .slice y.va.A y.va.l.length y.va.c, .slice y.dn.A y.dn.l.length y.dn.c, .slice y.ou.A y.ou.l.length y.ou.c, .int .u64 y.la, .slice y.ma.A y.ma.l.length y.ma.c] 31 from by
      have h := (heap_set 7 (.slice y.ma.A y.ma.l.length y.ma.c) (heap_set 6 (.int .u64 y.la) (heap_set 5 (.slice y.ou.A y.ou.l.length y.ou.c) (heap_set 4 (.slice y.dn.A y.dn.l.length y.dn.c) (heap_set 3 (.slice y.va.A y.va.l.length y.va.c) (heap_set 2 (.int .i64 y.st) (heap_set 1 (.int .u64 y.inc) (heap_set 0 (.int .u8 y.ki) HBA.out))))))))
      rw [hus] at h
      simp only [List.setIfInBounds_toArray, List.set_cons_zero, List.set_cons_succ] at h
      exact h)
     have HPS := hide_ (show Below wr.heap.size wr us from hus ▸ ((((((((hHeld.setCell (hgA) (.int .u8 y.ki)).setCell (hgA) (.int .u64 y.inc)).setCell (hgA) (.int .i64 y.st)).setCell (hgA) (.slice y.va.A y.va.l.length y.va.c)).setCell (hgA) (.slice y.dn.A y.dn.l.length y.dn.c)).setCell (hgA) (.slice y.ou.A y.ou.l.length y.ou.c)).setCell (hgA) (.int .u64 y.la)).setCell (hgA) (.slice y.ma.A y.ma.l.length y.ma.c)))
     have HFS := hide_ (show Fresh us wr.heap.size y from HF.out.boxed7 HBA.out (by decide) (by decide) (by decide) (by decide) HGS.out)
     have HBC := hide_ (show BoxAt us bB #[.int .i64 0, .int .u64 0, .int .i64 0, .slice none 0 0] 38 from box_far7 HGS.out HBB.out hne)
     clear hus q0 f0 q1 f1 q2 f2 q3 f3 q4 f4 q5 f5 q6 f6 q7 f7 hla HGS HBA HBB HF
     refine hK.out _ _ HPS.out (fun hHeld => ?_)
     clear hK K
     have q0 := (HBC.out.cell 0).trans (show _ = some (.int .i64 0) from rfl)
     have q1 := (HBC.out.cell 1).trans (show _ = some (.int .u64 0) from rfl)
     have q2 := (HBC.out.cell 2).trans (show _ = some (.int .i64 0) from rfl)
     have q3 := (HBC.out.cell 3).trans (show _ = some (.slice none 0 0) from rfl)
     have f0 := free7 HBC.out 0
     have f1 := free7 HBC.out 1
     have f2 := free7 HBC.out 2
     have f3 := free7 HBC.out 3
     have hlb := HBC.out.lt
     refine wpAnyH_ready (rs := [18]) (by kernel_rfl) (by simp) ?_
     refine AllReadyH.cons rfl (fun K hK => ?_) AllReadyH.nil
     go_simp
     obtain ⟨ut, hut⟩ : ∃ ut, ((((us.setCell ⟨bB, 0, none⟩ (.int .i64 p.er)).setCell ⟨bB, 1, none⟩ (.int .u64 p.inc)).setCell ⟨bB, 2, none⟩ (.int .i64 p.st)).setCell ⟨bB, 3, none⟩ (.slice p.va.A p.va.l.length p.va.c)) = ut := ⟨_, rfl⟩
     rw [hut]
     have HGT := hide_ (show us.grownBy ut (some bB) from hut ▸ (grown_set (grown_set (grown_set (grown_set (World.grownBy.refl us (some bB)) 0 (.int .i64 p.er)) 1 (.int .u64 p.inc)) 2 (.int .i64 p.st)) 3 (.slice p.va.A p.va.l.length p.va.c)))
     have HPT := hide_ (show Below wr.heap.size wr ut from hut ▸ ((((hHeld.setCell (hgB) (.int .i64 p.er)).setCell (hgB) (.int .u64 p.inc)).setCell (hgB) (.int .i64 p.st)).setCell (hgB) (.slice p.va.A p.va.l.length p.va.c)))
     have HFT := hide_ (show Fresh ut wr.heap.size y from HFS.out.boxed7 HBC.out (by decide) (by decide) (by decide) (by decide) HGT.out)
     have HBT := hide_ (show BoxAt ut bA #[.int .u8 y.ki, .int .u64 y.inc, .int .i64 y.st, .slice y.va.A y.va.l.length y.va.c, .slice y.dn.A y.dn.l.length y.dn.c, .slice y.ou.A y.ou.l.length y.ou.c, .int .u64 y.la, .slice y.ma.A y.ma.l.length y.ma.c] 31 from box_far7 HGT.out HBS.out (Ne.symm hne))
     clear hut q0 f0 q1 f1 q2 f2 q3 f3 hlb HGT
     refine hK.out _ _ HPT.out (fun hHeld => ?_)
     clear hK K
     refine tkY 19 13 ?hv27 rfl ?hyy27 (by assumption) ?hrest27
     case hyy27 => intro w hSw; (try dsimp only at hSw); go_simp <;> with_reducible rfl
     simp only [Act.put, List.setIfInBounds_toArray, List.set_cons_zero, List.set_cons_succ]
     refine wpAnyH_done (by kernel_rfl) ?_ _
     go_wp2_with fail
     go_meet
     exact ⟨y, bA, rfl, rfl, hgA, HBT, HYP, HFT, HPT⟩
   ·go_simp
    obtain ⟨u6, hu⟩ : ∃ v, u0.alloc (.cells #[.int .u8 0, .int .u64 0, .int .i64 0, .slice none 0 0, .slice none 0 0, .slice none 0 0, .int .u64 0, .slice none 0 0] 31) = v := ⟨_, rfl⟩
    rw [hu]
    have hbl : Below u0.heap.size u0 u6 := hu ▸ (Below.refl _ _).alloc (Nat.le_refl _) _
    have HPA := hide_ (hHeld.trans (hbl.mono hHeld.size))
    have HBA := hide_ (show BoxAt u6 u0.heap.size #[.int .u8 0, .int .u64 0, .int .i64 0, .slice none 0 0, .slice none 0 0, .slice none 0 0, .int .u64 0, .slice none 0 0] 31 from hu ▸ BoxAt.new u0 _ _)
    have hgA : wr.heap.size ≤ u0.heap.size := hHeld.size
    clear hbl hu
    obtain ⟨bA, hbA⟩ : ∃ b, u0.heap.size = b := ⟨_, rfl⟩
    rw [hbA] at HBA hgA ⊢
    clear hbA
    refine hK.out _ _ HPA.out (fun hHeld => ?_)
    clear hK K
    refine wpAnyH_ready (rs := [10, 16]) (by kernel_rfl) (by simp) ?_
    refine AllReadyH.cons rfl (fun K hK => ?_) (AllReadyH.cons rfl (fun K hK => ?_) AllReadyH.nil)
    ·go_simp
     go_wp2_with fail
     refine (HAX.out _ x oi (cn + (k : Int)) (HB.out.trans (hHeld.mono HB.out.size)) (HXA.out.step hHeld).ok HOI.out HCK.out HQK.out).mono ?_
     rintro e u7 ⟨y, p, rfl, hyp, hpp, hfr, hpn, hpv, hb_⟩
     have HPC := hide_ (hHeld.trans (hb_.mono hHeld.size))
     have HYP := hide_ hyp
     have HF := hide_ (hfr.less hHeld.size)
     replace HBA := hide_ (HBA.out.below hb_)
     clear hyp hpp hfr hpn hpv hb_
     simp only [RegM.v, RepM.v, Sl.v]
     refine hK.out _ _ HPC.out (fun hHeld => ?_)
     clear hK K
     refine tkY 11 49 ?hv28 rfl ?hyy28 (by assumption) ?hrest28
     case hyy28 => intro w hSw; (try dsimp only at hSw); go_simp <;> with_reducible rfl
     simp only [Act.put, List.setIfInBounds_toArray, List.set_cons_zero, List.set_cons_succ]
     refine tkY 12 61 ?hv29 rfl ?hyy29 (by assumption) ?hrest29
     case hyy29 => intro w hSw; (try dsimp only at hSw); go_simp <;> with_reducible rfl
     simp only [Act.put, List.setIfInBounds_toArray, List.set_cons_zero, List.set_cons_succ]
     refine tkY 13 62 ?hv30 rfl ?hyy30 (by assumption) ?hrest30
     case hyy30 => intro w hSw; (try dsimp only at hSw); go_simp <;> with_reducible rfl
     simp only [Act.put, List.setIfInBounds_toArray, List.set_cons_zero, List.set_cons_succ]
     refine tkY 14 63 ?hv31 rfl ?hyy31 (by assumption) ?hrest31
     case hyy31 => intro w hSw; (try dsimp only at hSw); go_simp <;> with_reducible rfl
     simp only [Act.put, List.setIfInBounds_toArray, List.set_cons_zero, List.set_cons_succ]
     refine wpAnyH_ready (rs := [16]) (by kernel_rfl) (by simp) ?_
     refine AllReadyH.cons rfl (fun K hK => ?_) AllReadyH.nil
     go_simp
     obtain ⟨u8, hu⟩ : ∃ v, u7.alloc (.cells #[.int .i64 0, .int .u64 0, .int .i64 0, .slice none 0 0] 38) = v := ⟨_, rfl⟩
     rw [hu]
     have hbl : Below u7.heap.size u7 u8 := hu ▸ (Below.refl _ _).alloc (Nat.le_refl _) _
     have HPA := hide_ (hHeld.trans (hbl.mono hHeld.size))
     have HBB := hide_ (show BoxAt u8 u7.heap.size #[.int .i64 0, .int .u64 0, .int .i64 0, .slice none 0 0] 38 from hu ▸ BoxAt.new u7 _ _)
     have hgB : wr.heap.size ≤ u7.heap.size := hHeld.size
     have hlo := HBA.out.lt
     replace HBA := hide_ (HBA.out.below hbl)
     replace HF := hide_ (HF.out.below hbl)
     clear hbl hu
     obtain ⟨bB, hbB⟩ : ∃ b, u7.heap.size = b := ⟨_, rfl⟩
     rw [hbB] at HBB hgB hlo ⊢
     have hne : bA ≠ bB := by omega
     clear hbB
     refine hK.out _ _ HPA.out (fun hHeld => ?_)
     clear hK K
     have q0 := (HBA.out.cell 0).trans (show _ = some (.int .u8 0) from rfl)
     have q1 := (HBA.out.cell 1).trans (show _ = some (.int .u64 0) from rfl)
     have q2 := (HBA.out.cell 2).trans (show _ = some (.int .i64 0) from rfl)
     have q3 := (HBA.out.cell 3).trans (show _ = some (.slice none 0 0) from rfl)
     have q4 := (HBA.out.cell 4).trans (show _ = some (.slice none 0 0) from rfl)
     have q5 := (HBA.out.cell 5).trans (show _ = some (.slice none 0 0) from rfl)
     have q6 := (HBA.out.cell 6).trans (show _ = some (.int .u64 0) from rfl)
     have q7 := (HBA.out.cell 7).trans (show _ = some (.slice none 0 0) from rfl)
     have f0 := free7 HBA.out 0
     have f1 := free7 HBA.out 1
     have f2 := free7 HBA.out 2
     have f3 := free7 HBA.out 3
     have f4 := free7 HBA.out 4
     have f5 := free7 HBA.out 5
     have f6 := free7 HBA.out 6
     have f7 := free7 HBA.out 7
     have hla := HBA.out.lt
     refine wpAnyH_ready (rs := [17]) (by kernel_rfl) (by simp) ?_
     refine AllReadyH.cons rfl (fun K hK => ?_) AllReadyH.nil
     go_simp
     obtain ⟨us, hus⟩ : ∃ us, ((((((((u8.setCell ⟨bA, 0, none⟩ (.int .u8 y.ki)).setCell ⟨bA, 1, none⟩ (.int .u64 y.inc)).setCell ⟨bA, 2, none⟩ (.int .i64 y.st)).setCell ⟨bA, 3, none⟩ (.slice y.va.A y.va.l.length y.va.c)).setCell ⟨bA, 4, none⟩ (.slice y.dn.A y.dn.l.length y.dn.c)).setCell ⟨bA, 5, none⟩ (.slice y.ou.A y.ou.l.length y.ou.c)).setCell ⟨bA, 6, none⟩ (.int .u64 y.la)).setCell ⟨bA, 7, none⟩ (.slice y.ma.A y.ma.l.length y.ma.c)) = us := ⟨_, rfl⟩
     rw [hus]
     have HGS := hide_ (show u8.grownBy us (some bA) from hus ▸ (grown_set (grown_set (grown_set (grown_set (grown_set (grown_set (grown_set (grown_set (World.grownBy.refl u8 (some bA)) 0 (.int .u8 y.ki)) 1 (.int .u64 y.inc)) 2 (.int .i64 y.st)) 3 (.slice y.va.A y.va.l.length y.va.c)) 4 (.slice y.dn.A y.dn.l.length y.dn.c)) 5 (.slice y.ou.A y.ou.l.length y.ou.c)) 6 (.int .u64 y.la)) 7 (.slice y.ma.A y.ma.l.length y.ma.c)))
     have HBS := hide_ (show BoxAt us bA #[.int .u8 y.ki, .int .u64 y.inc, .int .i64 y.st, .slice y.va.A y.va.l.length y.va.c, .slice y.dn.A y.dn.l.length y.dn.c, .slice y.ou.A y.ou.l.length y.ou.c, .int .u64 y.la, .slice y.ma.A y.ma.l.length y.ma.c] 31 from by
      have h := (heap_set 7 (.slice y.ma.A y.ma.l.length y.ma.c) (heap_set 6 (.int .u64 y.la) (heap_set 5 (.slice y.ou.A y.ou.l.length y.ou.c) (heap_set 4 (.slice y.dn.A y.dn.l.length y.dn.c) (heap_set 3 (.slice y.va.A y.va.l.length y.va.c) (heap_set 2 (.int .i64 y.st) (heap_set 1 (.int .u64 y.inc) (heap_set 0 (.int .u8 y.ki) HBA.out))))))))
      rw [hus] at h
      simp only [List.setIfInBounds_toArray, List.set_cons_zero, List.set_cons_succ] at h
      exact h)
     have HPS := hide_ (show Below wr.heap.size wr us from hus ▸ ((((((((hHeld.setCell (hgA) (.int .u8 y.ki)).setCell (hgA) (.int .u64 y.inc)).setCell (hgA) (.int .i64 y.st)).setCell (hgA) (.slice y.va.A y.va.l.length y.va.c)).setCell (hgA) (.slice y.dn.A y.dn.l.length y.dn.c)).setCell (hgA) (.slice y.ou.A y.ou.l.length y.ou.c)).setCell (hgA) (.int .u64 y.la)).setCell (hgA) (.slice y.ma.A y.ma.l.length y.ma.c)))
     have HFS := hide_ (show Fresh us wr.heap.size y from HF.out.boxed7 HBA.out (by decide) (by decide) (by decide) (by decide) HGS.out)
     have HBC := hide_ (show BoxAt us bB #[.int .i64 0, .int .u64 0, .int .i64 0, .slice none 0 0] 38 from box_far7 HGS.out HBB.out hne)
     clear hus q0 f0 q1 f1 q2 f2 q3 f3 q4 f4 q5 f5 q6 f6 q7 f7 hla HGS HBA HBB HF
     refine hK.out _ _ HPS.out (fun hHeld => ?_)
     clear hK K
     have q0 := (HBC.out.cell 0).trans (show _ = some (.int .i64 0) from rfl)
     have q1 := (HBC.out.cell 1).trans (show _ = some (.int .u64 0) from rfl)
     have q2 := (HBC.out.cell 2).trans (show _ = some (.int .i64 0) from rfl)
     have q3 := (HBC.out.cell 3).trans (show _ = some (.slice none 0 0) from rfl)
     have f0 := free7 HBC.out 0
     have f1 := free7 HBC.out 1
     have f2 := free7 HBC.out 2
     have f3 := free7 HBC.out 3
     have hlb := HBC.out.lt
     refine wpAnyH_ready (rs := [18]) (by kernel_rfl) (by simp) ?_
     refine AllReadyH.cons rfl (fun K hK => ?_) AllReadyH.nil
     go_simp
     obtain ⟨ut, hut⟩ : ∃ ut, ((((us.setCell ⟨bB, 0, none⟩ (.int .i64 p.er)).setCell ⟨bB, 1, none⟩ (.int .u64 p.inc)).setCell ⟨bB, 2, none⟩ (.int .i64 p.st)).setCell ⟨bB, 3, none⟩ (.slice p.va.A p.va.l.length p.va.c)) = ut := ⟨_, rfl⟩
     rw [hut]
     have HGT := hide_ (show us.grownBy ut (some bB) from hut ▸ (grown_set (grown_set (grown_set (grown_set (World.grownBy.refl us (some bB)) 0 (.int .i64 p.er)) 1 (.int .u64 p.inc)) 2 (.int .i64 p.st)) 3 (.slice p.va.A p.va.l.length p.va.c)))
     have HPT := hide_ (show Below wr.heap.size wr ut from hut ▸ ((((hHeld.setCell (hgB) (.int .i64 p.er)).setCell (hgB) (.int .u64 p.inc)).setCell (hgB) (.int .i64 p.st)).setCell (hgB) (.slice p.va.A p.va.l.length p.va.c)))
     have HFT := hide_ (show Fresh ut wr.heap.size y from HFS.out.boxed7 HBC.out (by decide) (by decide) (by decide) (by decide) HGT.out)
     have HBT := hide_ (show BoxAt ut bA #[.int .u8 y.ki, .int .u64 y.inc, .int .i64 y.st, .slice y.va.A y.va.l.length y.va.c, .slice y.dn.A y.dn.l.length y.dn.c, .slice y.ou.A y.ou.l.length y.ou.c, .int .u64 y.la, .slice y.ma.A y.ma.l.length y.ma.c] 31 from box_far7 HGT.out HBS.out (Ne.symm hne))
     clear hut q0 f0 q1 f1 q2 f2 q3 f3 hlb HGT
     refine hK.out _ _ HPT.out (fun hHeld => ?_)
     clear hK K
     refine tkY 19 13 ?hv32 rfl ?hyy32 (by assumption) ?hrest32
     case hyy32 => intro w hSw; (try dsimp only at hSw); go_simp <;> with_reducible rfl
     simp only [Act.put, List.setIfInBounds_toArray, List.set_cons_zero, List.set_cons_succ]
     refine wpAnyH_done (by kernel_rfl) ?_ _
     go_wp2_with fail
     go_meet
     exact ⟨y, bA, rfl, rfl, hgA, HBT, HYP, HFT, HPT⟩
    ·go_simp
     obtain ⟨u9, hu⟩ : ∃ v, u6.alloc (.cells #[.int .i64 0, .int .u64 0, .int .i64 0, .slice none 0 0] 38) = v := ⟨_, rfl⟩
     rw [hu]
     have hbl : Below u6.heap.size u6 u9 := hu ▸ (Below.refl _ _).alloc (Nat.le_refl _) _
     have HPA := hide_ (hHeld.trans (hbl.mono hHeld.size))
     have HBB := hide_ (show BoxAt u9 u6.heap.size #[.int .i64 0, .int .u64 0, .int .i64 0, .slice none 0 0] 38 from hu ▸ BoxAt.new u6 _ _)
     have hgB : wr.heap.size ≤ u6.heap.size := hHeld.size
     have hlo := HBA.out.lt
     replace HBA := hide_ (HBA.out.below hbl)
     clear hbl hu
     obtain ⟨bB, hbB⟩ : ∃ b, u6.heap.size = b := ⟨_, rfl⟩
     rw [hbB] at HBB hgB hlo ⊢
     have hne : bA ≠ bB := by omega
     clear hbB
     refine hK.out _ _ HPA.out (fun hHeld => ?_)
     clear hK K
     refine wpAnyH_ready (rs := [10]) (by kernel_rfl) (by simp) ?_
     refine AllReadyH.cons rfl (fun K hK => ?_) AllReadyH.nil
     go_simp
     go_wp2_with fail
     refine (HAX.out _ x oi (cn + (k : Int)) (HB.out.trans (hHeld.mono HB.out.size)) (HXA.out.step hHeld).ok HOI.out HCK.out HQK.out).mono ?_
     rintro e u10 ⟨y, p, rfl, hyp, hpp, hfr, hpn, hpv, hb_⟩
     have HPC := hide_ (hHeld.trans (hb_.mono hHeld.size))
     have HYP := hide_ hyp
     have HF := hide_ (hfr.less hHeld.size)
     replace HBA := hide_ (HBA.out.below hb_)
     replace HBB := hide_ (HBB.out.below hb_)
     clear hyp hpp hfr hpn hpv hb_
     simp only [RegM.v, RepM.v, Sl.v]
     refine hK.out _ _ HPC.out (fun hHeld => ?_)
     clear hK K
     refine tkY 11 49 ?hv33 rfl ?hyy33 (by assumption) ?hrest33
     case hyy33 => intro w hSw; (try dsimp only at hSw); go_simp <;> with_reducible rfl
     simp only [Act.put, List.setIfInBounds_toArray, List.set_cons_zero, List.set_cons_succ]
     refine tkY 12 61 ?hv34 rfl ?hyy34 (by assumption) ?hrest34
     case hyy34 => intro w hSw; (try dsimp only at hSw); go_simp <;> with_reducible rfl
     simp only [Act.put, List.setIfInBounds_toArray, List.set_cons_zero, List.set_cons_succ]
     refine tkY 13 62 ?hv35 rfl ?hyy35 (by assumption) ?hrest35
     case hyy35 => intro w hSw; (try dsimp only at hSw); go_simp <;> with_reducible rfl
     simp only [Act.put, List.setIfInBounds_toArray, List.set_cons_zero, List.set_cons_succ]
     refine tkY 14 63 ?hv36 rfl ?hyy36 (by assumption) ?hrest36
     case hyy36 => intro w hSw; (try dsimp only at hSw); go_simp <;> with_reducible rfl
     simp only [Act.put, List.setIfInBounds_toArray, List.set_cons_zero, List.set_cons_succ]
     have q0 := (HBA.out.cell 0).trans (show _ = some (.int .u8 0) from rfl)
     have q1 := (HBA.out.cell 1).trans (show _ = some (.int .u64 0) from rfl)
     have q2 := (HBA.out.cell 2).trans (show _ = some (.int .i64 0) from rfl)
     have q3 := (HBA.out.cell 3).trans (show _ = some (.slice none 0 0) from rfl)
     have q4 := (HBA.out.cell 4).trans (show _ = some (.slice none 0 0) from rfl)
     have q5 := (HBA.out.cell 5).trans (show _ = some (.slice none 0 0) from rfl)
     have q6 := (HBA.out.cell 6).trans (show _ = some (.int .u64 0) from rfl)
     have q7 := (HBA.out.cell 7).trans (show _ = some (.slice none 0 0) from rfl)
     have f0 := free7 HBA.out 0
     have f1 := free7 HBA.out 1
     have f2 := free7 HBA.out 2
     have f3 := free7 HBA.out 3
     have f4 := free7 HBA.out 4
     have f5 := free7 HBA.out 5
     have f6 := free7 HBA.out 6
     have f7 := free7 HBA.out 7
     have hla := HBA.out.lt
     refine wpAnyH_ready (rs := [17]) (by kernel_rfl) (by simp) ?_
     refine AllReadyH.cons rfl (fun K hK => ?_) AllReadyH.nil
     go_simp
     obtain ⟨us, hus⟩ : ∃ us, ((((((((u10.setCell ⟨bA, 0, none⟩ (.int .u8 y.ki)).setCell ⟨bA, 1, none⟩ (.int .u64 y.inc)).setCell ⟨bA, 2, none⟩ (.int .i64 y.st)).setCell ⟨bA, 3, none⟩ (.slice y.va.A y.va.l.length y.va.c)).setCell ⟨bA, 4, none⟩ (.slice y.dn.A y.dn.l.length y.dn.c)).setCell ⟨bA, 5, none⟩ (.slice y.ou.A y.ou.l.length y.ou.c)).setCell ⟨bA, 6, none⟩ (.int .u64 y.la)).setCell ⟨bA, 7, none⟩ (.slice y.ma.A y.ma.l.length y.ma.c)) = us := ⟨_, rfl⟩
     rw [hus]
     have HGS := hide_ (show u10.grownBy us (some bA) from hus ▸ (grown_set (grown_set (grown_set (grown_set (grown_set (grown_set (grown_set (grown_set (World.grownBy.refl u10 (some bA)) 0 (.int .u8 y.ki)) 1 (.int .u64 y.inc)) 2 (.int .i64 y.st)) 3 (.slice y.va.A y.va.l.length y.va.c)) 4 (.slice y.dn.A y.dn.l.length y.dn.c)) 5 (.slice y.ou.A y.ou.l.length y.ou.c)) 6 (.int .u64 y.la)) 7 (.slice y.ma.A y.ma.l.length y.ma.c)))
     have HBS := hide_ (show BoxAt us bA #[.int .u8 y.ki, .int .u64 y.inc, .int .i64 y.st, .slice y.va.A y.va.l.length y.va.c, .slice y.dn.A y.dn.l.length y.dn.c, .slice y.ou.A y.ou.l.length y.ou.c, .int .u64 y.la, .slice y.ma.A y.ma.l.length y.ma.c] 31 from by
      have h := (heap_set 7 (.slice y.ma.A y.ma.l.length y.ma.c) (heap_set 6 (.int .u64 y.la) (heap_set 5 (.slice y.ou.A y.ou.l.length y.ou.c) (heap_set 4 (.slice y.dn.A y.dn.l.length y.dn.c) (heap_set 3 (.slice y.va.A y.va.l.length y.va.c) (heap_set 2 (.int .i64 y.st) (heap_set 1 (.int .u64 y.inc) (heap_set 0 (.int .u8 y.ki) HBA.out))))))))
      rw [hus] at h
      simp only [List.setIfInBounds_toArray, List.set_cons_zero, List.set_cons_succ] at h
      exact h)
     have HPS := hide_ (show Below wr.heap.size wr us from hus ▸ ((((((((hHeld.setCell (hgA) (.int .u8 y.ki)).setCell (hgA) (.int .u64 y.inc)).setCell (hgA) (.int .i64 y.st)).setCell (hgA) (.slice y.va.A y.va.l.length y.va.c)).setCell (hgA) (.slice y.dn.A y.dn.l.length y.dn.c)).setCell (hgA) (.slice y.ou.A y.ou.l.length y.ou.c)).setCell (hgA) (.int .u64 y.la)).setCell (hgA) (.slice y.ma.A y.ma.l.length y.ma.c)))
     have HFS := hide_ (show Fresh us wr.heap.size y from HF.out.boxed7 HBA.out (by decide) (by decide) (by decide) (by decide) HGS.out)
     have HBC := hide_ (show BoxAt us bB #[.int .i64 0, .int .u64 0, .int .i64 0, .slice none 0 0] 38 from box_far7 HGS.out HBB.out hne)
     clear hus q0 f0 q1 f1 q2 f2 q3 f3 q4 f4 q5 f5 q6 f6 q7 f7 hla HGS HBA HBB HF
     refine hK.out _ _ HPS.out (fun hHeld => ?_)
     clear hK K
     have q0 := (HBC.out.cell 0).trans (show _ = some (.int .i64 0) from rfl)
     have q1 := (HBC.out.cell 1).trans (show _ = some (.int .u64 0) from rfl)
     have q2 := (HBC.out.cell 2).trans (show _ = some (.int .i64 0) from rfl)
     have q3 := (HBC.out.cell 3).trans (show _ = some (.slice none 0 0) from rfl)
     have f0 := free7 HBC.out 0
     have f1 := free7 HBC.out 1
     have f2 := free7 HBC.out 2
     have f3 := free7 HBC.out 3
     have hlb := HBC.out.lt
     refine wpAnyH_ready (rs := [18]) (by kernel_rfl) (by simp) ?_
     refine AllReadyH.cons rfl (fun K hK => ?_) AllReadyH.nil
     go_simp
     obtain ⟨ut, hut⟩ : ∃ ut, ((((us.setCell ⟨bB, 0, none⟩ (.int .i64 p.er)).setCell ⟨bB, 1, none⟩ (.int .u64 p.inc)).setCell ⟨bB, 2, none⟩ (.int .i64 p.st)).setCell ⟨bB, 3, none⟩ (.slice p.va.A p.va.l.length p.va.c)) = ut := ⟨_, rfl⟩
     rw [hut]
     have HGT := hide_ (show us.grownBy ut (some bB) from hut ▸ (grown_set (grown_set (grown_set (grown_set (World.grownBy.refl us (some bB)) 0 (.int .i64 p.er)) 1 (.int .u64 p.inc)) 2 (.int .i64 p.st)) 3 (.slice p.va.A p.va.l.length p.va.c)))
     have HPT := hide_ (show Below wr.heap.size wr ut from hut ▸ ((((hHeld.setCell (hgB) (.int .i64 p.er)).setCell (hgB) (.int .u64 p.inc)).setCell (hgB) (.int .i64 p.st)).setCell (hgB) (.slice p.va.A p.va.l.length p.va.c)))
     have HFT := hide_ (show Fresh ut wr.heap.size y from HFS.out.boxed7 HBC.out (by decide) (by decide) (by decide) (by decide) HGT.out)
     have HBT := hide_ (show BoxAt ut bA #[.int .u8 y.ki, .int .u64 y.inc, .int .i64 y.st, .slice y.va.A y.va.l.length y.va.c, .slice y.dn.A y.dn.l.length y.dn.c, .slice y.ou.A y.ou.l.length y.ou.c, .int .u64 y.la, .slice y.ma.A y.ma.l.length y.ma.c] 31 from box_far7 HGT.out HBS.out (Ne.symm hne))
     clear hut q0 f0 q1 f1 q2 f2 q3 f3 hlb HGT
     refine hK.out _ _ HPT.out (fun hHeld => ?_)
     clear hK K
     refine tkY 19 13 ?hv37 rfl ?hyy37 (by assumption) ?hrest37
     case hyy37 => intro w hSw; (try dsimp only at hSw); go_simp <;> with_reducible rfl
     simp only [Act.put, List.setIfInBounds_toArray, List.set_cons_zero, List.set_cons_succ]
     refine wpAnyH_done (by kernel_rfl) ?_ _
     go_wp2_with fail
     go_meet
     exact ⟨y, bA, rfl, rfl, hgA, HBT, HYP, HFT, HPT⟩
   ·go_simp
    obtain ⟨u11, hu⟩ : ∃ v, u0.alloc (.cells #[.int .i64 0, .int .u64 0, .int .i64 0, .slice none 0 0] 38) = v := ⟨_, rfl⟩
    rw [hu]
    have hbl : Below u0.heap.size u0 u11 := hu ▸ (Below.refl _ _).alloc (Nat.le_refl _) _
    have HPA := hide_ (hHeld.trans (hbl.mono hHeld.size))
    have HBB := hide_ (show BoxAt u11 u0.heap.size #[.int .i64 0, .int .u64 0, .int .i64 0, .slice none 0 0] 38 from hu ▸ BoxAt.new u0 _ _)
    have hgB : wr.heap.size ≤ u0.heap.size := hHeld.size
    clear hbl hu
    obtain ⟨bB, hbB⟩ : ∃ b, u0.heap.size = b := ⟨_, rfl⟩
    rw [hbB] at HBB hgB ⊢
    clear hbB
    refine hK.out _ _ HPA.out (fun hHeld => ?_)
    clear hK K
    refine wpAnyH_ready (rs := [10, 15]) (by kernel_rfl) (by simp) ?_
    refine AllReadyH.cons rfl (fun K hK => ?_) (AllReadyH.cons rfl (fun K hK => ?_) AllReadyH.nil)
    ·go_simp
     go_wp2_with fail
     refine (HAX.out _ x oi (cn + (k : Int)) (HB.out.trans (hHeld.mono HB.out.size)) (HXA.out.step hHeld).ok HOI.out HCK.out HQK.out).mono ?_
     rintro e u12 ⟨y, p, rfl, hyp, hpp, hfr, hpn, hpv, hb_⟩
     have HPC := hide_ (hHeld.trans (hb_.mono hHeld.size))
     have HYP := hide_ hyp
     have HF := hide_ (hfr.less hHeld.size)
     replace HBB := hide_ (HBB.out.below hb_)
     clear hyp hpp hfr hpn hpv hb_
     simp only [RegM.v, RepM.v, Sl.v]
     refine hK.out _ _ HPC.out (fun hHeld => ?_)
     clear hK K
     refine tkY 11 49 ?hv38 rfl ?hyy38 (by assumption) ?hrest38
     case hyy38 => intro w hSw; (try dsimp only at hSw); go_simp <;> with_reducible rfl
     simp only [Act.put, List.setIfInBounds_toArray, List.set_cons_zero, List.set_cons_succ]
     refine tkY 12 61 ?hv39 rfl ?hyy39 (by assumption) ?hrest39
     case hyy39 => intro w hSw; (try dsimp only at hSw); go_simp <;> with_reducible rfl
     simp only [Act.put, List.setIfInBounds_toArray, List.set_cons_zero, List.set_cons_succ]
     refine tkY 13 62 ?hv40 rfl ?hyy40 (by assumption) ?hrest40
     case hyy40 => intro w hSw; (try dsimp only at hSw); go_simp <;> with_reducible rfl
     simp only [Act.put, List.setIfInBounds_toArray, List.set_cons_zero, List.set_cons_succ]
     refine tkY 14 63 ?hv41 rfl ?hyy41 (by assumption) ?hrest41
     case hyy41 => intro w hSw; (try dsimp only at hSw); go_simp <;> with_reducible rfl
     simp only [Act.put, List.setIfInBounds_toArray, List.set_cons_zero, List.set_cons_succ]
     refine wpAnyH_ready (rs := [15]) (by kernel_rfl) (by simp) ?_
     refine AllReadyH.cons rfl (fun K hK => ?_) AllReadyH.nil
     go_simp
     obtain ⟨u13, hu⟩ : ∃ v, u12.alloc (.cells #[.int .u8 0, .int .u64 0, .int .i64 0, .slice none 0 0, .slice none 0 0, .slice none 0 0, .int .u64 0, .slice none 0 0] 31) = v := ⟨_, rfl⟩
     rw [hu]
     have hbl : Below u12.heap.size u12 u13 := hu ▸ (Below.refl _ _).alloc (Nat.le_refl _) _
     have HPA := hide_ (hHeld.trans (hbl.mono hHeld.size))
     have HBA := hide_ (show BoxAt u13 u12.heap.size #[.int .u8 0, .int .u64 0, .int .i64 0, .slice none 0 0, .slice none 0 0, .slice none 0 0, .int .u64 0, .slice none 0 0] 31 from hu ▸ BoxAt.new u12 _ _)
     have hgA : wr.heap.size ≤ u12.heap.size := hHeld.size
     have hlo := HBB.out.lt
     replace HBB := hide_ (HBB.out.below hbl)
     replace HF := hide_ (HF.out.below hbl)
     clear hbl hu
     obtain ⟨bA, hbA⟩ : ∃ b, u12.heap.size = b := ⟨_, rfl⟩
     rw [hbA] at HBA hgA hlo ⊢
     have hne : bA ≠ bB := by omega
     clear hbA
     refine hK.out _ _ HPA.out (fun hHeld => ?_)
     clear hK K
     have q0 := (HBA.out.cell 0).trans (show _ = some (.int .u8 0) from rfl)
     have q1 := (HBA.out.cell 1).trans (show _ = some (.int .u64 0) from rfl)
     have q2 := (HBA.out.cell 2).trans (show _ = some (.int .i64 0) from rfl)
     have q3 := (HBA.out.cell 3).trans (show _ = some (.slice none 0 0) from rfl)
     have q4 := (HBA.out.cell 4).trans (show _ = some (.slice none 0 0) from rfl)
     have q5 := (HBA.out.cell 5).trans (show _ = some (.slice none 0 0) from rfl)
     have q6 := (HBA.out.cell 6).trans (show _ = some (.int .u64 0) from rfl)
     have q7 := (HBA.out.cell 7).trans (show _ = some (.slice none 0 0) from rfl)
     have f0 := free7 HBA.out 0
     have f1 := free7 HBA.out 1
     have f2 := free7 HBA.out 2
     have f3 := free7 HBA.out 3
     have f4 := free7 HBA.out 4
     have f5 := free7 HBA.out 5
     have f6 := free7 HBA.out 6
     have f7 := free7 HBA.out 7
     have hla := HBA.out.lt
     refine wpAnyH_ready (rs := [17]) (by kernel_rfl) (by simp) ?_
     refine AllReadyH.cons rfl (fun K hK => ?_) AllReadyH.nil
     go_simp
     obtain ⟨us, hus⟩ : ∃ us, ((((((((u13.setCell ⟨bA, 0, none⟩ (.int .u8 y.ki)).setCell ⟨bA, 1, none⟩ (.int .u64 y.inc)).setCell ⟨bA, 2, none⟩ (.int .i64 y.st)).setCell ⟨bA, 3, none⟩ (.slice y.va.A y.va.l.length y.va.c)).setCell ⟨bA, 4, none⟩ (.slice y.dn.A y.dn.l.length y.dn.c)).setCell ⟨bA, 5, none⟩ (.slice y.ou.A y.ou.l.length y.ou.c)).setCell ⟨bA, 6, none⟩ (.int .u64 y.la)).setCell ⟨bA, 7, none⟩ (.slice y.ma.A y.ma.l.length y.ma.c)) = us := ⟨_, rfl⟩
     rw [hus]
     have HGS := hide_ (show u13.grownBy us (some bA) from hus ▸ (grown_set (grown_set (grown_set (grown_set (grown_set (grown_set (grown_set (grown_set (World.grownBy.refl u13 (some bA)) 0 (.int .u8 y.ki)) 1 (.int .u64 y.inc)) 2 (.int .i64 y.st)) 3 (.slice y.va.A y.va.l.length y.va.c)) 4 (.slice y.dn.A y.dn.l.length y.dn.c)) 5 (.slice y.ou.A y.ou.l.length y.ou.c)) 6 (.int .u64 y.la)) 7 (.slice y.ma.A y.ma.l.length y.ma.c)))
     have HBS := hide_ (show BoxAt us bA #[.int .u8 y.ki, .int .u64 y.inc, .int .i64 y.st, .slice y.va.A y.va.l.length y.va.c, .slice y.dn.A y.dn.l.length y.dn.c, .slice y.ou.A y.ou.l.length y.ou.c, .int .u64 y.la, .slice y.ma.A y.ma.l.length y.ma.c] 31 from by
      have h := (heap_set 7 (.slice y.ma.A y.ma.l.length y.ma.c) (heap_set 6 (.int .u64 y.la) (heap_set 5 (.slice y.ou.A y.ou.l.length y.ou.c) (heap_set 4 (.slice y.dn.A y.dn.l.length y.dn.c) (heap_set 3 (.slice y.va.A y.va.l.length y.va.c) (heap_set 2 (.int .i64 y.st) (heap_set 1 (.int .u64 y.inc) (heap_set 0 (.int .u8 y.ki) HBA.out))))))))
      rw [hus] at h
      simp only [List.setIfInBounds_toArray, List.set_cons_zero, List.set_cons_succ] at h
      exact h)
     have HPS := hide_ (show Below wr.heap.size wr us from hus ▸ ((((((((hHeld.setCell (hgA) (.int .u8 y.ki)).setCell (hgA) (.int .u64 y.inc)).setCell (hgA) (.int .i64 y.st)).setCell (hgA) (.slice y.va.A y.va.l.length y.va.c)).setCell (hgA) (.slice y.dn.A y.dn.l.length y.dn.c)).setCell (hgA) (.slice y.ou.A y.ou.l.length y.ou.c)).setCell (hgA) (.int .u64 y.la)).setCell (hgA) (.slice y.ma.A y.ma.l.length y.ma.c)))
     have HFS := hide_ (show Fresh us wr.heap.size y from HF.out.boxed7 HBA.out (by decide) (by decide) (by decide) (by decide) HGS.out)
     have HBC := hide_ (show BoxAt us bB #[.int .i64 0, .int .u64 0, .int .i64 0, .slice none 0 0] 38 from box_far7 HGS.out HBB.out hne)
     clear hus q0 f0 q1 f1 q2 f2 q3 f3 q4 f4 q5 f5 q6 f6 q7 f7 hla HGS HBA HBB HF
     refine hK.out _ _ HPS.out (fun hHeld => ?_)
     clear hK K
     have q0 := (HBC.out.cell 0).trans (show _ = some (.int .i64 0) from rfl)
     have q1 := (HBC.out.cell 1).trans (show _ = some (.int .u64 0) from rfl)
     have q2 := (HBC.out.cell 2).trans (show _ = some (.int .i64 0) from rfl)
     have q3 := (HBC.out.cell 3).trans (show _ = some (.slice none 0 0) from rfl)
     have f0 := free7 HBC.out 0
     have f1 := free7 HBC.out 1
     have f2 := free7 HBC.out 2
     have f3 := free7 HBC.out 3
     have hlb := HBC.out.lt
     refine wpAnyH_ready (rs := [18]) (by kernel_rfl) (by simp) ?_
     refine AllReadyH.cons rfl (fun K hK => ?_) AllReadyH.nil
     go_simp
     obtain ⟨ut, hut⟩ : ∃ ut, ((((us.setCell ⟨bB, 0, none⟩ (.int .i64 p.er)).setCell ⟨bB, 1, none⟩ (.int .u64 p.inc)).setCell ⟨bB, 2, none⟩ (.int .i64 p.st)).setCell ⟨bB, 3, none⟩ (.slice p.va.A p.va.l.length p.va.c)) = ut := ⟨_, rfl⟩
     rw [hut]
     have HGT := hide_ (show us.grownBy ut (some bB) from hut ▸ (grown_set (grown_set (grown_set (grown_set (World.grownBy.refl us (some bB)) 0 (.int .i64 p.er)) 1 (.int .u64 p.inc)) 2 (.int .i64 p.st)) 3 (.slice p.va.A p.va.l.length p.va.c)))
     have HPT := hide_ (show Below wr.heap.size wr ut from hut ▸ ((((hHeld.setCell (hgB) (.int .i64 p.er)).setCell (hgB) (.int .u64 p.inc)).setCell (hgB) (.int .i64 p.st)).setCell (hgB) (.slice p.va.A p.va.l.length p.va.c)))
     have HFT := hide_ (show Fresh ut wr.heap.size y from HFS.out.boxed7 HBC.out (by decide) (by decide) (by decide) (by decide) HGT.out)
     have HBT := hide_ (show BoxAt ut bA #[.int .u8 y.ki, .int .u64 y.inc, .int .i64 y.st, .slice y.va.A y.va.l.length y.va.c, .slice y.dn.A y.dn.l.length y.dn.c, .slice y.ou.A y.ou.l.length y.ou.c, .int .u64 y.la, .slice y.ma.A y.ma.l.length y.ma.c] 31 from box_far7 HGT.out HBS.out (Ne.symm hne))
     clear hut q0 f0 q1 f1 q2 f2 q3 f3 hlb HGT
     refine hK.out _ _ HPT.out (fun hHeld => ?_)
     clear hK K
     refine tkY 19 13 ?hv42 rfl ?hyy42 (by assumption) ?hrest42
     case hyy42 => intro w hSw; (try dsimp only at hSw); go_simp <;> with_reducible rfl
     simp only [Act.put, List.setIfInBounds_toArray, List.set_cons_zero, List.set_cons_succ]
     refine wpAnyH_done (by kernel_rfl) ?_ _
     go_wp2_with fail
     go_meet
     exact ⟨y, bA, rfl, rfl, hgA, HBT, HYP, HFT, HPT⟩
    ·go_simp
     obtain ⟨u14, hu⟩ : ∃ v, u11.alloc (.cells #[.int .u8 0, .int .u64 0, .int .i64 0, .slice none 0 0, .slice none 0 0, .slice none 0 0, .int .u64 0, .slice none 0 0] 31) = v := ⟨_, rfl⟩
     rw [hu]
     have hbl : Below u11.heap.size u11 u14 := hu ▸ (Below.refl _ _).alloc (Nat.le_refl _) _
     have HPA := hide_ (hHeld.trans (hbl.mono hHeld.size))
     have HBA := hide_ (show BoxAt u14 u11.heap.size #[.int .u8 0, .int .u64 0, .int .i64 0, .slice none 0 0, .slice none 0 0, .slice none 0 0, .int .u64 0, .slice none 0 0] 31 from hu ▸ BoxAt.new u11 _ _)
     have hgA : wr.heap.size ≤ u11.heap.size := hHeld.size
     have hlo := HBB.out.lt
     replace HBB := hide_ (HBB.out.below hbl)
     clear hbl hu
     obtain ⟨bA, hbA⟩ : ∃ b, u11.heap.size = b := ⟨_, rfl⟩
     rw [hbA] at HBA hgA hlo ⊢
     have hne : bA ≠ bB := by omega
     clear hbA
     refine hK.out _ _ HPA.out (fun hHeld => ?_)
     clear hK K
     refine wpAnyH_ready (rs := [10]) (by kernel_rfl) (by simp) ?_
     refine AllReadyH.cons rfl (fun K hK => ?_) AllReadyH.nil
     go_simp
     go_wp2_with fail
     refine (HAX.out _ x oi (cn + (k : Int)) (HB.out.trans (hHeld.mono HB.out.size)) (HXA.out.step hHeld).ok HOI.out HCK.out HQK.out).mono ?_
     rintro e u15 ⟨y, p, rfl, hyp, hpp, hfr, hpn, hpv, hb_⟩
     have HPC := hide_ (hHeld.trans (hb_.mono hHeld.size))
     have HYP := hide_ hyp
     have HF := hide_ (hfr.less hHeld.size)
     replace HBA := hide_ (HBA.out.below hb_)
     replace HBB := hide_ (HBB.out.below hb_)
     clear hyp hpp hfr hpn hpv hb_
     simp only [RegM.v, RepM.v, Sl.v]
     refine hK.out _ _ HPC.out (fun hHeld => ?_)
     clear hK K
     refine tkY 11 49 ?hv43 rfl ?hyy43 (by assumption) ?hrest43
     case hyy43 => intro w hSw; (try dsimp only at hSw); go_simp <;> with_reducible rfl
     simp only [Act.put, List.setIfInBounds_toArray, List.set_cons_zero, List.set_cons_succ]
     refine tkY 12 61 ?hv44 rfl ?hyy44 (by assumption) ?hrest44
     case hyy44 => intro w hSw; (try dsimp only at hSw); go_simp <;> with_reducible rfl
     simp only [Act.put, List.setIfInBounds_toArray, List.set_cons_zero, List.set_cons_succ]
     refine tkY 13 62 ?hv45 rfl ?hyy45 (by assumption) ?hrest45
     case hyy45 => intro w hSw; (try dsimp only at hSw); go_simp <;> with_reducible rfl
     simp only [Act.put, List.setIfInBounds_toArray, List.set_cons_zero, List.set_cons_succ]
     refine tkY 14 63 ?hv46 rfl ?hyy46 (by assumption) ?hrest46
     case hyy46 => intro w hSw; (try dsimp only at hSw); go_simp <;> with_reducible rfl
     simp only [Act.put, List.setIfInBounds_toArray, List.set_cons_zero, List.set_cons_succ]
     have q0 := (HBA.out.cell 0).trans (show _ = some (.int .u8 0) from rfl)
     have q1 := (HBA.out.cell 1).trans (show _ = some (.int .u64 0) from rfl)
     have q2 := (HBA.out.cell 2).trans (show _ = some (.int .i64 0) from rfl)
     have q3 := (HBA.out.cell 3).trans (show _ = some (.slice none 0 0) from rfl)
     have q4 := (HBA.out.cell 4).trans (show _ = some (.slice none 0 0) from rfl)
     have q5 := (HBA.out.cell 5).trans (show _ = some (.slice none 0 0) from rfl)
     have q6 := (HBA.out.cell 6).trans (show _ = some (.int .u64 0) from rfl)
     have q7 := (HBA.out.cell 7).trans (show _ = some (.slice none 0 0) from rfl)
     have f0 := free7 HBA.out 0
     have f1 := free7 HBA.out 1
     have f2 := free7 HBA.out 2
     have f3 := free7 HBA.out 3
     have f4 := free7 HBA.out 4
     have f5 := free7 HBA.out 5
     have f6 := free7 HBA.out 6
     have f7 := free7 HBA.out 7
     have hla := HBA.out.lt
     refine wpAnyH_ready (rs := [17]) (by kernel_rfl) (by simp) ?_
     refine AllReadyH.cons rfl (fun K hK => ?_) AllReadyH.nil
     go_simp
     obtain ⟨us, hus⟩ : ∃ us, ((((((((u15.setCell ⟨bA, 0, none⟩ (.int .u8 y.ki)).setCell ⟨bA, 1, none⟩ (.int .u64 y.inc)).setCell ⟨bA, 2, none⟩ (.int .i64 y.st)).setCell ⟨bA, 3, none⟩ (.slice y.va.A y.va.l.length y.va.c)).setCell ⟨bA, 4, none⟩ (.slice y.dn.A y.dn.l.length y.dn.c)).setCell ⟨bA, 5, none⟩ (.slice y.ou.A y.ou.l.length y.ou.c)).setCell ⟨bA, 6, none⟩ (.int .u64 y.la)).setCell ⟨bA, 7, none⟩ (.slice y.ma.A y.ma.l.length y.ma.c)) = us := ⟨_, rfl⟩
     rw [hus]
     have HGS := hide_ (show u15.grownBy us (some bA) from hus ▸ (grown_set (grown_set (grown_set (grown_set (grown_set (grown_set (grown_set (grown_set (World.grownBy.refl u15 (some bA)) 0 (.int .u8 y.ki)) 1 (.int .u64 y.inc)) 2 (.int .i64 y.st)) 3 (.slice y.va.A y.va.l.length y.va.c)) 4 (.slice y.dn.A y.dn.l.length y.dn.c)) 5 (.slice y.ou.A y.ou.l.length y.ou.c)) 6 (.int .u64 y.la)) 7 (.slice y.ma.A y.ma.l.length y.ma.c)))
     have HBS := hide_ (show BoxAt us bA #[.int .u8 y.ki, .int .u64 y.inc, .int .i64 y.st, .slice y.va.A y.va.l.length y.va.c, .slice y.dn.A y.dn.l.length y.dn.c, .slice y.ou.A y.ou.l.length y.ou.c, .int .u64 y.la, .slice y.ma.A y.ma.l.length y.ma.c] 31 from by
      have h := (heap_set 7 (.slice y.ma.A y.ma.l.length y.ma.c) (heap_set 6 (.int .u64 y.la) (heap_set 5 (.slice y.ou.A y.ou.l.length y.ou.c) (heap_set 4 (.slice y.dn.A y.dn.l.length y.dn.c) (heap_set 3 (.slice y.va.A y.va.l.length y.va.c) (heap_set 2 (.int .i64 y.st) (heap_set 1 (.int .u64 y.inc) (heap_set 0 (.int .u8 y.ki) HBA.out))))))))
      rw [hus] at h
      simp only [List.setIfInBounds_toArray, List.set_cons_zero, List.set_cons_succ] at h
      exact h)
     have HPS := hide_ (show Below wr.heap.size wr us from hus ▸ ((((((((hHeld.setCell (hgA) (.int .u8 y.ki)).setCell (hgA) (.int .u64 y.inc)).setCell (hgA) (.int .i64 y.st)).setCell (hgA) (.slice y.va.A y.va.l.length y.va.c)).setCell (hgA) (.slice y.dn.A y.dn.l.length y.dn.c)).setCell (hgA) (.slice y.ou.A y.ou.l.length y.ou.c)).setCell (hgA) (.int .u64 y.la)).setCell (hgA) (.slice y.ma.A y.ma.l.length y.ma.c)))
     have HFS := hide_ (show Fresh us wr.heap.size y from HF.out.boxed7 HBA.out (by decide) (by decide) (by decide) (by decide) HGS.out)
     have HBC := hide_ (show BoxAt us bB #[.int .i64 0, .int .u64 0, .int .i64 0, .slice none 0 0] 38 from box_far7 HGS.out HBB.out hne)
     clear hus q0 f0 q1 f1 q2 f2 q3 f3 q4 f4 q5 f5 q6 f6 q7 f7 hla HGS HBA HBB HF
     refine hK.out _ _ HPS.out (fun hHeld => ?_)
     clear hK K
     have q0 := (HBC.out.cell 0).trans (show _ = some (.int .i64 0) from rfl)
     have q1 := (HBC.out.cell 1).trans (show _ = some (.int .u64 0) from rfl)
     have q2 := (HBC.out.cell 2).trans (show _ = some (.int .i64 0) from rfl)
     have q3 := (HBC.out.cell 3).trans (show _ = some (.slice none 0 0) from rfl)
     have f0 := free7 HBC.out 0
     have f1 := free7 HBC.out 1
     have f2 := free7 HBC.out 2
     have f3 := free7 HBC.out 3
     have hlb := HBC.out.lt
     refine wpAnyH_ready (rs := [18]) (by kernel_rfl) (by simp) ?_
     refine AllReadyH.cons rfl (fun K hK => ?_) AllReadyH.nil
     go_simp
     obtain ⟨ut, hut⟩ : ∃ ut, ((((us.setCell ⟨bB, 0, none⟩ (.int .i64 p.er)).setCell ⟨bB, 1, none⟩ (.int .u64 p.inc)).setCell ⟨bB, 2, none⟩ (.int .i64 p.st)).setCell ⟨bB, 3, none⟩ (.slice p.va.A p.va.l.length p.va.c)) = ut := ⟨_, rfl⟩
     rw [hut]
     have HGT := hide_ (show us.grownBy ut (some bB) from hut ▸ (grown_set (grown_set (grown_set (grown_set (World.grownBy.refl us (some bB)) 0 (.int .i64 p.er)) 1 (.int .u64 p.inc)) 2 (.int .i64 p.st)) 3 (.slice p.va.A p.va.l.length p.va.c)))
     have HPT := hide_ (show Below wr.heap.size wr ut from hut ▸ ((((hHeld.setCell (hgB) (.int .i64 p.er)).setCell (hgB) (.int .u64 p.inc)).setCell (hgB) (.int .i64 p.st)).setCell (hgB) (.slice p.va.A p.va.l.length p.va.c)))
     have HFT := hide_ (show Fresh ut wr.heap.size y from HFS.out.boxed7 HBC.out (by decide) (by decide) (by decide) (by decide) HGT.out)
     have HBT := hide_ (show BoxAt ut bA #[.int .u8 y.ki, .int .u64 y.inc, .int .i64 y.st, .slice y.va.A y.va.l.length y.va.c, .slice y.dn.A y.dn.l.length y.dn.c, .slice y.ou.A y.ou.l.length y.ou.c, .int .u64 y.la, .slice y.ma.A y.ma.l.length y.ma.c] 31 from box_far7 HGT.out HBS.out (Ne.symm hne))
     clear hut q0 f0 q1 f1 q2 f2 q3 f3 hlb HGT
     refine hK.out _ _ HPT.out (fun hHeld => ?_)
     clear hK K
     refine tkY 19 13 ?hv47 rfl ?hyy47 (by assumption) ?hrest47
     case hyy47 => intro w hSw; (try dsimp only at hSw); go_simp <;> with_reducible rfl
     simp only [Act.put, List.setIfInBounds_toArray, List.set_cons_zero, List.set_cons_succ]
     refine wpAnyH_done (by kernel_rfl) ?_ _
     go_wp2_with fail
     go_meet
     exact ⟨y, bA, rfl, rfl, hgA, HBT, HYP, HFT, HPT⟩
  case rest =>
  obtain ⟨y, b15, rfl, rfl, hb15, HBY, HYP, HFY, HPY⟩ := hcut
  have HXc := hide_ (HX.out.below HPY.out)
  have HTc := hide_ (HT.out.below HPY.out)
  have HAc := hide_ (HXA.out.step HPY.out)
  have HBc := hide_ (HB.out.trans (HPY.out.mono HB.out.size))
  have hzc : zx < wc.heap.size := HXc.out.lt
  have hyc : b15 < wc.heap.size := HBY.out.lt
  have HRS := hide_ (show x.ki = 1 → Rise7 x.p y.p from fun h => HYP.out ▸ apply_rise7 h)
  clear HCO HCT HCX HPY HYP HX HXA HT HB HQK HCK HOI HP_v1
  go_upto_region 9 with fail
  go_cut [89] (fun q wx => q = .bool false ∧ wx = wc)
  case first =>
   have hcy := HBY.out.cell
   have hcx := HXc.out.cell
   by_cases c1 : y.ki = 1
   case neg =>
    have d1 : (y.ki == 1) = false := beq_eq_false_iff_ne.2 c1
    clear c1
    go_wp2_with fail
    go_meet
    exact ⟨rfl, rfl⟩
   have d1 : (y.ki == 1) = true := beq_iff_eq.2 c1
   by_cases c2 : y.inc = x.inc
   case neg =>
    have d2 : (y.inc == x.inc) = false := beq_eq_false_iff_ne.2 c2
    clear c1 c2
    go_wp2_with fail
    go_meet
    exact ⟨rfl, rfl⟩
   have d2 : (y.inc == x.inc) = true := beq_iff_eq.2 c2
   by_cases c3 : x.ki = 1
   case neg =>
    have d3 : (x.ki == 1) = false := beq_eq_false_iff_ne.2 c3
    clear c1 c2 c3
    go_wp2_with fail
    go_meet
    exact ⟨rfl, rfl⟩
   have d3 : (x.ki == 1) = true := beq_iff_eq.2 c3
   have hle : x.la ≤ y.la := (HRS.out c3).1 c1
   have d4 : decide (y.la < x.la) = false := decide_eq_false (by omega)
   clear c1 c2 c3
   go_wp2_with fail
   go_meet
   exact ⟨rfl, rfl⟩
  case rest =>
  obtain ⟨rfl, rfl⟩ := hcut
  have HOY := hide_ (fun (u : World) (hu : Below wc.heap.size wc u) => show celsOk u wc.heap.size y.ou from cels_stable.below HFY.out.ok.2.2.2.1 hu)
  have HOX := hide_ (fun (u : World) (hu : Below wc.heap.size wc u) => show celsOk u wc.heap.size x.ou from cels_stable.below HAc.out.ok.2.2.2.1 hu)
  obtain ⟨ny, hny⟩ : ∃ m, y.ou.l.length = m := ⟨_, rfl⟩
  obtain ⟨nx, hnx⟩ : ∃ m, x.ou.l.length = m := ⟨_, rfl⟩
  have hny8 : ny ≤ 9223372036854775807 ∧ ny ≤ y.ou.c := by
   have h := HOY.out _ (Below.refl _ _)
   have h1 := h.1
   have h2 := h.2.1
   unfold maxLen at h2
   omega
  have hnx8 : nx ≤ 9223372036854775807 ∧ nx ≤ x.ou.c := by
   have h := HOX.out _ (Below.refl _ _)
   have h1 := h.1
   have h2 := h.2.1
   unfold maxLen at h2
   omega
  have HNY := hide_ hny
  have HNX := hide_ hnx
  have HCY := hide_ (fun (u : World) (hu : Below wc.heap.size wc u) => show (∀ i, u.cell? ⟨b15, i, none⟩ = _) from hny ▸ (HBY.out.below hu).cell)
  have HCX := hide_ (fun (u : World) (hu : Below wc.heap.size wc u) => show (∀ i, u.cell? ⟨zx, i, none⟩ = _) from hnx ▸ (HXc.out.below hu).cell)
  have HW0 := hide_ (Below.refl wc.heap.size wc)
  clear hny hnx
  go_wp2_with fail
  go_loopw [14] (fun i wx => ∃ k2 : Nat, k2 ≤ ny ∧ i = .int .i64 k2 ∧ Hid (Below wc.heap.size wc wx)) (fun i _ => ny - (intOf i).toNat)
  case atStart => exact ⟨0, by omega, rfl, HW0⟩
  case round =>
   obtain ⟨k2, hk2, rfl, HK⟩ := hrel
   have hsc : wc.heap.size ≤ wr.heap.size := HK.out.size
   have hcy := HCY.out _ HK.out
   have hcx := HCX.out _ HK.out
   have hyl : b15 < wr.heap.size := by omega
   have hxl : zx < wr.heap.size := by omega
   by_cases hltk : k2 < ny
   case neg =>
    obtain rfl : ny = k2 := by omega
    have HXk := hide_ (HXc.out.below HK.out)
    have HFk := hide_ (HFY.out.below HK.out)
    have HTk := hide_ (HTc.out.below HK.out)
    have HBk := hide_ (HBc.out.trans (HK.out.mono HBc.out.size))
    have f0 := free7 HXk.out 0
    have f1 := free7 HXk.out 1
    have f2 := free7 HXk.out 2
    have f3 := free7 HXk.out 3
    have f4 := free7 HXk.out 4
    have f5 := free7 HXk.out 5
    have f6 := free7 HXk.out 6
    have f7 := free7 HXk.out 7
    go_upto_region 6 with fail
    rw [← HNY.out]
    obtain ⟨W5, hW5⟩ : ∃ W5, ((((((((wr.setCell ⟨zx, 0, none⟩ (.int .u8 y.ki)).setCell ⟨zx, 1, none⟩ (.int .u64 y.inc)).setCell ⟨zx, 2, none⟩ (.int .i64 y.st)).setCell ⟨zx, 3, none⟩ (.slice y.va.A y.va.l.length y.va.c)).setCell ⟨zx, 4, none⟩ (.slice y.dn.A y.dn.l.length y.dn.c)).setCell ⟨zx, 5, none⟩ (.slice y.ou.A y.ou.l.length y.ou.c)).setCell ⟨zx, 6, none⟩ (.int .u64 y.la)).setCell ⟨zx, 7, none⟩ (.slice y.ma.A y.ma.l.length y.ma.c)) = W5 := ⟨_, rfl⟩
    rw [hW5]
    have HG5 := hide_ (show wr.grownBy W5 (some zx) from hW5 ▸ (grown_set (grown_set (grown_set (grown_set (grown_set (grown_set (grown_set (grown_set (World.grownBy.refl wr (some zx)) 0 (.int .u8 y.ki)) 1 (.int .u64 y.inc)) 2 (.int .i64 y.st)) 3 (.slice y.va.A y.va.l.length y.va.c)) 4 (.slice y.dn.A y.dn.l.length y.dn.c)) 5 (.slice y.ou.A y.ou.l.length y.ou.c)) 6 (.int .u64 y.la)) 7 (.slice y.ma.A y.ma.l.length y.ma.c)))
    have HX5 := hide_ (show BoxAt W5 zx #[.int .u8 y.ki, .int .u64 y.inc, .int .i64 y.st, .slice y.va.A y.va.l.length y.va.c, .slice y.dn.A y.dn.l.length y.dn.c, .slice y.ou.A y.ou.l.length y.ou.c, .int .u64 y.la, .slice y.ma.A y.ma.l.length y.ma.c] 31 from by
     have h := (heap_set 7 (.slice y.ma.A y.ma.l.length y.ma.c) (heap_set 6 (.int .u64 y.la) (heap_set 5 (.slice y.ou.A y.ou.l.length y.ou.c) (heap_set 4 (.slice y.dn.A y.dn.l.length y.dn.c) (heap_set 3 (.slice y.va.A y.va.l.length y.va.c) (heap_set 2 (.int .i64 y.st) (heap_set 1 (.int .u64 y.inc) (heap_set 0 (.int .u8 y.ki) HXk.out))))))))
     rw [hW5] at h
     simp only [List.setIfInBounds_toArray, List.set_cons_zero, List.set_cons_succ] at h
     exact h)
    clear hW5 hcy hcx f0 f1 f2 f3 f4 f5 f6 f7
    have HA5 := hide_ (show Aside7 W5 zx y from fun u hu => Aside7.fresh HFk.out hzr u (grown_join HG5.out hu))
    have HT5 := hide_ (box_far7 HG5.out HTk.out (by omega))
    have HB5 := hide_ (HBk.out.grown HG5.out HBk.out.size (fun q hq => by injection hq with hq; omega))
    go_wp2_with fail
    go_roundw
    case rel => exact ⟨k + 1, y, by omega, by go_num, HX5, HA5, HT5, HB5⟩
    case measure => simp [intOf]; omega
   have hkl2 : k2 < y.ou.l.length := by rw [HNY.out]; exact hltk
   obtain ⟨yb, yo, hyA, hybB, y0, y1, y2, y3⟩ := (HOY.out _ (Below.refl _ _)).2.2.1.cel (List.getElem?_eq_getElem hkl2)
   have HYA := hide_ hyA
   have HMY := hide_ (show y.ou.l[k2] ∈ y.p.ou from List.getElem_mem hkl2)
   obtain ⟨c, hce⟩ : ∃ c, y.ou.l[k2] = c := ⟨_, rfl⟩
   rw [hce] at y0 y1 y2 y3 HMY
   obtain ⟨c1, c2, c3, c4⟩ := c
   simp only at y0 y1 y2 y3
   have HYC := hide_ (fun (u : World) (hu : Below wc.heap.size wc u) => show u.cell? ⟨yb, yo + k2 * 4, none⟩ = some (.int .u64 c1) ∧ u.cell? ⟨yb, yo + k2 * 4 + 1, none⟩ = some (.int .u8 c2) ∧ u.cell? ⟨yb, yo + k2 * 4 + 2, none⟩ = some (.int .i64 c3) ∧ u.cell? ⟨yb, yo + k2 * 4 + 3, none⟩ = some (.int .i64 c4) from
    ⟨(hu.cell (p := ⟨yb, yo + k2 * 4, none⟩) hybB).trans y0, (hu.cell (p := ⟨yb, yo + k2 * 4 + 1, none⟩) hybB).trans y1, (hu.cell (p := ⟨yb, yo + k2 * 4 + 2, none⟩) hybB).trans y2, (hu.cell (p := ⟨yb, yo + k2 * 4 + 3, none⟩) hybB).trans y3⟩)
   have HOLD0 := hide_ (show Value.bool false = .bool (decide ((c1, c2, c3, c4) ∈ x.ou.l.take 0)) by simp)
   have HNEW := hide_ (show x.ki = 1 → (c1, c2, c3, c4) ∉ x.ou.l → x.la < c1 from fun h hn => ((HRS.out h).2 _ HMY.out).resolve_left hn)
   clear hce hkl2 y0 y1 y2 y3 hyA HMY
   go_wp2_with fail
   clear hcy hcx
   go_loopw [15, 16] (fun ol i wx => ∃ j : Nat, j ≤ nx ∧ i = .int .i64 j ∧ ol = .bool (decide ((c1, c2, c3, c4) ∈ x.ou.l.take j)) ∧ Hid (Below wc.heap.size wc wx)) (fun _ i _ => nx - (intOf i).toNat)
   case atStart => exact ⟨0, by omega, rfl, HOLD0.out, HK⟩
   case round =>
    obtain ⟨j, hj, rfl, rfl, HJ⟩ := hrel
    have hsj : wc.heap.size ≤ wr.heap.size := HJ.out.size
    have hcy := HCY.out _ HJ.out
    have hcx := HCX.out _ HJ.out
    have hyl : b15 < wr.heap.size := by omega
    have hxl : zx < wr.heap.size := by omega
    have hybr : yb < wr.heap.size := by omega
    obtain ⟨y0, y1, y2, y3⟩ := HYC.out _ HJ.out
    rw [HYA.out] at hcy
    have HQW := hide_ (fun (n : Nat) => below_drawsN HJ.out n)
    by_cases hltj : j < nx
    case pos =>
     have hjl : j < x.ou.l.length := by rw [HNX.out]; exact hltj
     have HTS := hide_ (mem_take7 (c := (c1, c2, c3, c4)) hjl)
     obtain ⟨q, hq⟩ : ∃ q, decide ((c1, c2, c3, c4) ∈ x.ou.l.take j) = q := ⟨_, rfl⟩
     rw [hq]
     have HQQ := hide_ hq
     clear hq
     cases q with
     | true =>
      have HNEX := hide_ (show Value.bool true = .bool (decide ((c1, c2, c3, c4) ∈ x.ou.l.take (j + 1))) by
       rw [decide_eq_true (HTS.out.2 (.inl (of_decide_eq_true HQQ.out)))])
      go_upto_region 18 with fail
      go_quiet (fail)
      go_wp2
      go_roundw
      case rel => exact ⟨j + 1, by omega, by go_num, HNEX.out, hide_ (HQW.out _)⟩
      case measure => simp [intOf]; omega
     | false =>
      obtain ⟨xb, xo, hxA, hxbB, x0, x1, x2, x3⟩ := (HOX.out _ HJ.out).2.2.1.cel (List.getElem?_eq_getElem hjl)
      have hxbr : xb < wr.heap.size := by omega
      rw [hxA] at hcx
      have HQN := hide_ (of_decide_eq_false HQQ.out)
      obtain ⟨d, hd⟩ : ∃ d, x.ou.l[j] = d := ⟨_, rfl⟩
      rw [hd] at x0 x1 x2 x3 HTS
      clear hd hxA
      obtain ⟨d1, d2, d3, d4⟩ := d
      simp only at x0 x1 x2 x3
      by_cases hdc : d1 = c1 ∧ d2 = c2 ∧ d3 = c3 ∧ d4 = c4
      case pos =>
       obtain ⟨rfl, rfl, rfl, rfl⟩ := hdc
       have HNEX := hide_ (show Value.bool true = .bool (decide ((d1, d2, d3, d4) ∈ x.ou.l.take (j + 1))) by
        rw [decide_eq_true (HTS.out.2 (.inr rfl))])
       go_upto_region 18 with fail
       go_quiet (fail)
       go_wp2
       go_roundw
       case rel => exact ⟨j + 1, by omega, by go_num, HNEX.out, hide_ (HQW.out _)⟩
       case measure => simp [intOf]; omega
      have HNEX := hide_ (show Value.bool false = .bool (decide ((c1, c2, c3, c4) ∈ x.ou.l.take (j + 1))) by
       rw [decide_eq_false (fun h => (HTS.out.1 h).elim HQN.out (fun e => hdc (by injection e with e1 e2; injection e2 with e2 e3; injection e3 with e3 e4; exact ⟨e1, e2, e3, e4⟩)))])
      have HDC := hide_ hdc
      clear hdc
      by_cases e1 : d1 = c1
      case neg =>
       have b1 : (d1 == c1) = false := beq_eq_false_iff_ne.2 e1
       clear e1
       go_upto_region 18 with fail
       go_quiet (fail)
       go_wp2
       go_roundw
       case rel => exact ⟨j + 1, by omega, by go_num, HNEX.out, hide_ (HQW.out _)⟩
       case measure => simp [intOf]; omega
      subst e1
      by_cases e2 : d2 = c2
      case neg =>
       have b2 : (d2 == c2) = false := beq_eq_false_iff_ne.2 e2
       clear e2
       go_upto_region 18 with fail
       go_quiet (fail)
       go_wp2
       go_roundw
       case rel => exact ⟨j + 1, by omega, by go_num, HNEX.out, hide_ (HQW.out _)⟩
       case measure => simp [intOf]; omega
      subst e2
      by_cases e3 : d3 = c3
      case neg =>
       have b3 : (d3 == c3) = false := beq_eq_false_iff_ne.2 e3
       clear e3
       go_upto_region 18 with fail
       go_quiet (fail)
       go_wp2
       go_roundw
       case rel => exact ⟨j + 1, by omega, by go_num, HNEX.out, hide_ (HQW.out _)⟩
       case measure => simp [intOf]; omega
      subst e3
      by_cases e4 : d4 = c4
      case neg =>
       have b4 : (d4 == c4) = false := beq_eq_false_iff_ne.2 e4
       clear e4
       go_upto_region 18 with fail
       go_quiet (fail)
       go_wp2
       go_roundw
       case rel => exact ⟨j + 1, by omega, by go_num, HNEX.out, hide_ (HQW.out _)⟩
       case measure => simp [intOf]; omega
      subst e4
      exact absurd ⟨rfl, rfl, rfl, rfl⟩ HDC.out
    case neg =>
    obtain rfl : nx = j := by omega
    have HTA := hide_ (show x.ou.l.take nx = x.ou.l from List.take_of_length_le (by rw [HNX.out]; exact Nat.le_refl _))
    rw [HTA.out]
    obtain ⟨q, hq⟩ : ∃ q, decide ((c1, c2, c3, c4) ∈ x.ou.l) = q := ⟨_, rfl⟩
    rw [hq]
    have HQQ := hide_ hq
    clear hq
    cases q with
    | true =>
     go_upto_region 19 with fail
     go_quiet (fail)
     go_wp2
     go_roundw
     case rel => exact ⟨k2 + 1, by omega, by go_num, hide_ (HQW.out _)⟩
     case measure => simp [intOf]; omega
    | false =>
     by_cases e1 : x.ki = 1
     case neg =>
      have b1 : (x.ki == 1) = false := beq_eq_false_iff_ne.2 e1
      clear e1
      go_upto_region 19 with fail
      go_quiet (fail)
      go_wp2
      go_roundw
      case rel => exact ⟨k2 + 1, by omega, by go_num, hide_ (HQW.out _)⟩
      case measure => simp [intOf]; omega
     have b1 : (x.ki == 1) = true := beq_iff_eq.2 e1
     have HLT := hide_ (HNEW.out e1 (of_decide_eq_false HQQ.out))
     clear e1
     by_cases e2 : x.inc = y.inc
     case neg =>
      have b2 : (x.inc == y.inc) = false := beq_eq_false_iff_ne.2 e2
      clear e2
      go_upto_region 19 with fail
      go_quiet (fail)
      go_wp2
      go_roundw
      case rel => exact ⟨k2 + 1, by omega, by go_num, hide_ (HQW.out _)⟩
      case measure => simp [intOf]; omega
     have b2 : (x.inc == y.inc) = true := beq_iff_eq.2 e2
     clear e2
     have b3 : decide (c1 ≤ x.la) = false := decide_eq_false (by have := HLT.out; omega)
     go_upto_region 19 with fail
     go_quiet (fail)
     go_wp2
     go_roundw
     case rel => exact ⟨k2 + 1, by omega, by go_num, hide_ (HQW.out _)⟩
     case measure => simp [intOf]; omega

theorem own : ownKnob Tryz.prog.godebug = none := by kernel_rfl
theorem laid : laidOutB Tryz.prog = true := by kernel_rfl

set_option maxRecDepth 100000 in
theorem contract (H : Type) (enc : TypeId × Value → H) (W : World) (base : Nat) (args : Array Value) (ds gs : List (DataW H)) (before : List MemPlace)
  (hval : ∀ (j : Nat) t v, Tryz.f5.params[j]? = some t → args[j]? = some v → Value.okWide Tryz.prog W .any base t v)
  (hW : DataW.Whole enc Tryz.prog Tryz.f5.params.toList Rows.engineCellsSpec.vars false W args.toList ds gs before) :
  Calls Tryz.prog 5 args W fun e W' => ∃ v, e = .returned v ∧ Rows.engineCellsSpec.post enc Tryz.prog Tryz.f5 false true false false W args v W' := by
 have hW' := hW
 obtain ⟨p, q, hA0, hV, rfl, hfz, hnd⟩ := hW
 have hA : DataW.TrodAll enc Tryz.prog W 0 (fun _ => true) true Tryz.f5.params.toList args.toList ds p := hA0
 rw [Tryz.params5] at hA hval
 obtain ⟨v0, vs0, d0, ds0, p0, q0, hargs, rfl, rfl, h0, r0⟩ := trodAll_cons hA
 obtain ⟨v1, vs1, d1, ds1, p1, q1, rfl, rfl, rfl, h1, r1⟩ := trodAll_cons r0
 obtain ⟨v2, vs2, d2, ds2, p2, q2, rfl, rfl, rfl, h2, r2⟩ := trodAll_cons r1
 obtain ⟨v3, vs3, d3, ds3, p3, q3, rfl, rfl, rfl, h3, r3⟩ := trodAll_cons r2
 obtain ⟨rfl, rfl, rfl⟩ := trodAll_nil r3
 obtain rfl : args = #[v0, v1, v2, v3] := by cases args; simp_all
 obtain ⟨rfl, rfl⟩ := trodVars_none hV
 obtain ⟨x0, y0, z0, rfl, bx0, by0, bz0⟩ := open_table (hval 0 24 v0 rfl rfl) h0
 obtain ⟨u1, rfl, bu1⟩ := open_reg (hval 1 31 v1 rfl rfl) h1
 obtain ⟨u2, rfl, bu2⟩ := open_ops (hval 2 47 v2 rfl rfl) h2
 obtain ⟨a3, rfl, rfl, rfl, w3⟩ := open_int Tryz.underlying25 (hval 3 25 v3 rfl rfl) h3
 have b3 : 0 ≤ a3 ∧ a3 ≤ 18446744073709551615 := by simpa [Lit.wf, IntKind.min, IntKind.max, IntKind.signed, IntKind.bits] using w3
 have fin : ∀ (e : Ending) (W' : World), e = .returned (.bool true) ∧ Below W.heap.size W W' → ∃ v, e = .returned v ∧ Rows.engineCellsSpec.post enc Tryz.prog Tryz.f5 false true false false W #[tabV x0 y0 z0, RegM.v u1, Sl.v u2, .int .u64 a3] v W' :=
  fun e W' ⟨he, hb⟩ => ⟨_, he, law_post laid (by kernel_rfl) rfl rfl rfl Tryz.underlying4 hW' hb⟩
 exact (walk x0 y0 z0 u1 u2 a3 W bz0 bu1 bu2 b3).mono fin

set_option maxRecDepth 100000 in
theorem lifted (os : Os) (started : os.Started) (H : Type) (enc : TypeId × Value → H) :
  ReturnsInHanded {} Tryz.checked os 5 .any (Rows.engineCellsSpec.pre6 enc Tryz.prog Tryz.f5 Rows.engineCellsRow.domain false) (Rows.engineCellsSpec.post enc Tryz.prog Tryz.f5 false true false false) := by
 refine returnsInHanded_of_change (C := Tryz.checked) (s := Rows.engineCellsSpec) own started (by kernel_rfl) Tryz.func5
  (ChangeSpec.witness6 (enc := enc) (C := Tryz.checked) false ⟨#[], #[.agg #[.int .i64 0, .int .i64 0, .slice none 0 0], .agg #[.int .u8 0, .int .u64 0, .int .i64 0, .slice none 0 0, .slice none 0 0, .slice none 0 0, .int .u64 0, .slice none 0 0], .slice none 0 0, .int .u64 0], []⟩ 8 (by kernel_rfl) (by kernel_rfl) (by kernel_rfl) (by kernel_rfl)) ?_
 intro W base args ds gs before hval hW _ _
 exact contract H enc W base args ds gs before hval hW

theorem proved : Rows.EngineCellsSaid :=
 OpenClaim.holds_of_wide 5 Tryz.f5 rfl rfl rfl rfl rfl rfl rfl ⟨rfl, rfl, rfl, rfl, rfl⟩ rfl rfl rfl rfl rfl (by kernel_rfl) Tryz.func5 (by kernel_rfl)
  (of_decide_eq_true (by kernel_rfl)) (by unfold Func.isWrapper; first | (rw [if_pos (by decide +kernel)]; kernel_rfl) | (rw [if_neg (by decide +kernel)]; exact ⟨rfl, rfl⟩))
  (fun os started H enc _ => lifted os started H enc)

end Go.Proofs.YtpiikdinphnjbaaGreat.engineCells
