/-
  Texts of this claim put together: Awk7a, Kinds7.
-/
import Derived.Test.YtccfjaefnejjmaaGreatJ36
import Derived.Test.YtccfjaefnejjmaaGreatJ30
import Derived.Test.YtccfjaefnejjmaaGreatJ25
import Derived.Test.YtccfjaefnejjmaaGreatJ37
/-
  Parts of engine's Apply where a register has no entries: again, do of a create, put into an empty list.
-/
namespace Go.Proofs.YtccfjaefnejjmaaGreat
open Go.RowKit

section
variable {P : Program}
/-- the walk's step: append of cells onto a row of one's own: what else has changed -/
theorem wpList_append_grown (w : World) {ops : Array Oper} {rest : List Oper} {o : Oper} {a : Act} {Q : Exit → Act → World → Prop} (hgd : Region.wanted o (yielded ops a.tmps) = true) (s x : Operand) (t : TypeId)
    (ho : o.op = .call { callee := .builtin .append, args := #[s, x], argTypes := #[t, t] })
    (base : Nat) (e : TypeId) (z : Value) (size bytes : Nat) (hinfo : (P.info? e).map (fun i => (i.zero, i.size, i.bytes)) = some (some z, size, bytes)) (hzs : z.cells.size = size) (hsz : 0 < size) (ht : P.underlying t = some (.slice e))
    (v : Value) (n : Nat) (xs : List Value) (hs : a.eval s = v) (hown : w.ownsRow base e size v n xs)
    (B : Nat) (A : Option Addr) (m c : Nat) (news : List Value) (hx : a.eval x = .slice A m c) (hl : news.length = m * size) (hr : Sees w B A news) (h1 : ∀ u ∈ news, u.oneCell' = true) (hm : n + m ≤ 1000000) (hb : bytes ≤ 1000) (hbase : base ≤ w.heap.size)
    (r : Nat) (hr2 : n + m = r) (ys : List Value) (hys : xs ++ news = ys)
    (h : ∀ A' c' w', w'.ownsRow base e size (.slice A' r c') r ys → w.grownBy w' v.ownBlock → wpList P ops Q rest (a.put o.dst (.slice A' r c')) w') : wpList P ops Q (o :: rest) a w := by
  refine wpList_step fun _ hK => ?_
  rw [if_pos hgd]
  obtain ⟨i0, hi, hz0, hz1, hz2⟩ := info_parts hinfo
  subst hr2 hys
  obtain ⟨v', w', hrun, h2, h3, _⟩ := run_append_rows (P := P) w base t o.type e i0 z size bytes ht hi hz0 hz1 hz2 hzs hsz v n xs hown B A m c news hl hr h1 (by unfold maxLen; omega)
    (Nat.le_trans (Nat.mul_le_mul hm hb) (by decide)) hbase
  have hv : ∃ A' c', v' = .slice A' (n + m) c' := by
    rcases h2.2 with ⟨rfl, h0⟩ | ⟨g, cap, cur, rfl, _⟩
    · exact ⟨none, 0, by rw [h0]⟩
    · exact ⟨_, _, rfl⟩
  obtain ⟨A', c', rfl⟩ := hv
  unfold Oper.wp execOp
  simp only [ho, resolve, invoke, builtin, Sem.run_bind, Sem.run_pure, Result.andThen_ok, List.map_toArray, List.map_cons, List.map_nil, hs, hx, hrun]
  exact hK _ _ (h A' c' w' h2 h3)
end

set_option maxRecDepth 100000 in
set_option maxHeartbeats 6400000 in
theorem again_nil (x : RegM) (o : OpM) (B : Nat) (w : World) (hx : RegM.ok w B x) (hB : B ≤ w.heap.size) (hn : x.dn.l = []) :
    Calls Tryz.prog 29 #[x.v, o.v] w fun e w' => e = .returned (.tuple #[.agg #[.int .i64 0, .int .u64 0, .int .i64 0, .slice none 0 0], .bool false]) ∧ Below w.heap.size w w' := by
  have HD := hide_ (fun (u : World) (hb : Below w.heap.size w u) => dns_stable.more (dns_stable.below hx.2.2.1 (hb.mono hB)) (Nat.le_trans hB hb.size))
  clear hx
  obtain ⟨ki, inc, st, ⟨vA, vc, vl⟩, ⟨dA, dc, dl⟩, ⟨oA, oc, ol⟩, la, ⟨mA, mc, ml⟩⟩ := x
  simp only at hn
  subst hn
  simp only [RegM.v, OpM.v, Sl.v, List.length_nil] at HD ⊢
  obtain ⟨W0, hW0⟩ : ∃ W0, ((w.alloc (.cells #[.int .u8 ki, .int .u64 inc, .int .i64 st, .slice vA vl.length vc, .slice dA 0 dc, .slice oA ol.length oc, .int .u64 la, .slice mA ml.length mc] 31)).alloc (.cells #[.int .u8 o.ki, .int .u8 o.ke, .int .u8 o.cl, .int .u64 o.sq, .int .i64 o.ac, .int .i64 o.pa, .int .i64 o.ar, .int .u8 o.so, .int .u64 o.inc, .int .u64 o.ce] 33)).alloc (.cells #[.int .i64 0, .int .u64 0, .int .i64 0, .slice none 0 0] 38) = W0 := ⟨_, rfl⟩
  have HB0 := hide_ (show Below w.heap.size w W0 from hW0 ▸ (((Below.refl _ _).alloc (Nat.le_refl _) _).alloc (by simp) _).alloc (by simp; omega) _)
  have HZ := hide_ (show BoxAt W0 (w.heap.size + 1 + 1) #[.int .i64 0, .int .u64 0, .int .i64 0, .slice none 0 0] 38 from by
    have h := BoxAt.new ((w.alloc (.cells #[.int .u8 ki, .int .u64 inc, .int .i64 st, .slice vA vl.length vc, .slice dA 0 dc, .slice oA ol.length oc, .int .u64 la, .slice mA ml.length mc] 31)).alloc (.cells #[.int .u8 o.ki, .int .u8 o.ke, .int .u8 o.cl, .int .u64 o.sq, .int .i64 o.ac, .int .i64 o.pa, .int .i64 o.ar, .int .u8 o.so, .int .u64 o.inc, .int .u64 o.ce] 33)) #[.int .i64 0, .int .u64 0, .int .i64 0, .slice none 0 0] 38
    rw [hW0] at h
    simpa using h)
  have HC := hide_ (indexDone_any (fun _ => false) (fun _ _ => True) 48 #[.pointer (some ⟨w.heap.size + 1, 0, none⟩)] ⟨dA, dc, []⟩ W0.heap.size W0 (HD.out _ HB0.out) (Nat.le_refl _) trivial (fun _ _ => rfl) (fun k x wr hx _ _ => by simp at hx))
  simp only [Sl.v, List.length_nil] at HC
  rw [show idxI (fun _ => false) 0 = -1 from rfl] at HC
  have HW0 := hide_ hW0
  clear hW0
  go_enter Tryz.func29, Tryz.ntmps29
  go_wp2_with fail
  rw [HW0.out]
  refine HC.out.mono ?_
  rintro en w1 ⟨rfl, hb1⟩
  have HB1 := hide_ (HB0.out.trans (hb1.mono HB0.out.size))
  have HZ1 := hide_ (HZ.out.below hb1)
  clear hb1
  have hz1 : w.heap.size + 1 + 1 < w1.heap.size := HZ1.out.lt
  have r0 := (HZ1.out.cell 0).trans (show _ = some (.int .i64 0 : Value) from rfl)
  have g0 := HZ1.out.frozen 0
  have r1 := (HZ1.out.cell 1).trans (show _ = some (.int .u64 0 : Value) from rfl)
  have g1 := HZ1.out.frozen 1
  have r2 := (HZ1.out.cell 2).trans (show _ = some (.int .i64 0 : Value) from rfl)
  have g2 := HZ1.out.frozen 2
  have r3 := (HZ1.out.cell 3).trans (show _ = some (.slice none 0 0 : Value) from rfl)
  have g3 := HZ1.out.frozen 3
  go_wp2
  refine bodyPost_ret (v := .tuple #[.agg #[.int .i64 0, .int .u64 0, .int .i64 0, .slice none 0 0], .bool false]) (by simp [results, Tryz.results29, go_sem, r0, r1, r2, r3]) rfl ⟨rfl, ?_⟩
  clear r0 g0 r1 g1 r2 g2 r3 g3
  iterate 4 refine Below.setCell ?_ (by simp; try omega) _
  exact HB1.out

set_option maxRecDepth 100000 in
set_option maxHeartbeats 6400000 in
theorem do_create (ts : Int) (tA : Option Addr) (tn tc : Nat) (x : RegM) (o : OpM) (cn : Int) (lo z nv : Nat) (w : World) (h : At7 w lo z x) (ho : o.ki = 1) (hn : nv ≤ 8) (hc : U64 cn) :
    Calls Tryz.prog 30 #[.agg #[.int .i64 ts, .int .i64 nv, .slice tA tn tc], .pointer (some ⟨z, 0, none⟩), o.v, .int .u64 cn] w (Does (createG x.p nv cn) lo z w) := by
  obtain ⟨W0, hW0⟩ : ∃ W0, (w.alloc (.cells #[.int .i64 ts, .int .i64 nv, .slice tA tn tc] 24)).alloc (.cells o.box 33) = W0 := ⟨_, rfl⟩
  have hb0 : Below w.heap.size w W0 := hW0 ▸ ((Below.refl _ _).alloc (Nat.le_refl _) _).alloc (by simp) _
  have h0 : At7 W0 lo z x := ⟨h.box.below hb0, h.fresh.below hb0, h.low, Nat.le_trans h.size hb0.size⟩
  have HCR := hide_ (create_any x nv cn lo z W0 h0 hn hc)
  have HK := hide_ (Kp.of (z := z) (hb0.mono h.size) h.low)
  have HW0 := hide_ hW0
  clear hW0 h0 hb0 h
  obtain ⟨ki, ke, cl, sq, ac, pa, ar, so, inc, ce⟩ := o
  simp only at ho
  subst ho
  simp only [OpM.v, OpM.box] at HW0 ⊢
  go_enter Tryz.func30, Tryz.ntmps30
  go_wp2_with fail
  rw [HW0.out]
  refine HCR.out.mono ?_
  rintro en w1 ⟨y, rfl, hp, hat, hk⟩
  have HP := hide_ hp
  have HAT := hide_ hat
  have HKP := hide_ (HK.out.trans hk)
  clear hp hat hk
  go_wp2
  go_ret
  exact ⟨y, rfl, HP.out, HAT.out, HKP.out⟩

theorem note1_any (d : DoneM) (w : World) : Calls Tryz.prog 56 #[DoneM.v d] w fun e w' => e = .returned (.int .u8 d.cl) ∧ Below w.heap.size w w' := by
  obtain ⟨cl, sq, er, inc, st, ⟨A, c, va⟩⟩ := d
  simp only [DoneM.v, Sl.v]
  go_enter Tryz.func56, Tryz.ntmps56
  go_wp2
  go_ret
  exact ⟨rfl, (Below.refl _ _).alloc (Nat.le_refl _) _⟩

theorem bs_nil (A : Option Addr) (c : Nat) (k : Int) (f : Value) (w : World) : Calls Tryz.prog 74 #[.slice A 0 c, .int .u8 k, f] w fun e w' => e = .returned (.tuple #[.int .i64 0, .bool false]) ∧ w = w' := by
  go_enter Tryz.func74, Tryz.ntmps74
  go_wp2
  go_loopw [9, 10] (fun i j wr => i = .int .i64 0 ∧ j = .int .i64 0 ∧ w = wr) (fun i _ _ => (intOf i).toNat)
  case atStart => exact ⟨rfl, rfl, rfl⟩
  case round =>
    obtain ⟨rfl, rfl, rfl⟩ := hrel
    go_wp2
    go_ret2
    exact ⟨rfl, rfl⟩

set_option maxRecDepth 100000 in
set_option maxHeartbeats 3200000 in
theorem ins_nil (A B : Option Addr) (c bc : Nat) (d : DoneM) (lo b : Nat) (w : World) (h : w.ownsRow lo 71 6 (.slice A 0 c) 0 []) (hlo : lo ≤ w.heap.size) (hs : Sees w b B (DoneM.cs d)) :
    Calls Tryz.prog 77 #[.slice A 0 c, .int .i64 0, .slice B 1 bc] w fun e w' => ∃ A' c', e = .returned (.slice A' 1 c') ∧ w'.ownsRow lo 71 6 (.slice A' 1 c') 1 (DoneM.cs d) ∧ w.grownBy w' (Value.slice A 0 c).ownBlock := by
  have HO := hide_ h
  have HS := hide_ hs
  have H1 := hide_ (show ∀ u ∈ DoneM.cs d, u.oneCell' = true from fun u hu => don_one [d] u (by simpa using hu))
  clear h hs
  by_cases hc : c = 0
  case pos =>
    subst hc
    go_enter Tryz.func77, Tryz.ntmps77
    go_wp2_with (at_builtin; refine wpList_append_grown _ rfl _ _ 27 rfl lo 71 (.agg #[.int .u8 0, .int .u64 0, .int .i64 0, .int .u64 0, .int .i64 0, .slice none 0 0]) 6 64 done_info rfl (by omega) Tryz.underlying27 _ 0 [] rfl HO.out b B 1 bc (DoneM.cs d) rfl rfl HS.out H1.out (by omega) (by omega) hlo 1 (by omega) (DoneM.cs d) rfl ?_; intro A5 c5 w1 hown hb)
    go_ret
    exact ⟨_, _, rfl, by assumption, by assumption⟩
  go_enter Tryz.func77, Tryz.ntmps77
  go_wp2_with (at_builtin; refine wpList_append_grown _ rfl _ _ 27 rfl lo 71 (.agg #[.int .u8 0, .int .u64 0, .int .i64 0, .int .u64 0, .int .i64 0, .slice none 0 0]) 6 64 done_info rfl (by omega) Tryz.underlying27 _ 0 [] rfl HO.out b B 1 bc (DoneM.cs d) rfl rfl HS.out H1.out (by omega) (by omega) hlo 1 (by omega) (DoneM.cs d) rfl ?_; intro A5 c5 w1 hown hb)
  go_ret
  exact ⟨_, _, rfl, by assumption, by assumption⟩
end Go.Proofs.YtccfjaefnejjmaaGreat

/-
  Engine's do, kind by kind, over any contracts of what it calls.
-/
namespace Go.Proofs.YtccfjaefnejjmaaGreat
open Go.RowKit

theorem Does.of {R : RegP × Int} {lo z : Nat} {w W0 w' : World} {e : Ending} (h : Does R lo z W0 e w') (hk : Kp z lo w W0) : Does R lo z w e w' := by
  obtain ⟨x, h1, h2, h3, h4⟩ := h
  exact ⟨x, h1, h2, h3, hk.trans h4⟩

set_option maxRecDepth 100000 in
set_option maxHeartbeats 6400000 in
theorem do_fire (ts tv : Int) (tA : Option Addr) (tn tc : Nat) (R : RegP × Int) (o : OpM) (cn : Int) (lo z : Nat) (w : World) (hlo : lo ≤ w.heap.size) (hz : z < lo) (ho : o.ki = 2)
    (HC : ∀ u, Below w.heap.size w u → Calls Tryz.prog 50 #[.agg #[.int .i64 ts, .int .i64 tv, .slice tA tn tc], .pointer (some ⟨z, 0, none⟩), .int .i64 o.ac, .int .i64 o.pa, .int .i64 o.ar] u (Does R lo z u)) :
    Calls Tryz.prog 30 #[.agg #[.int .i64 ts, .int .i64 tv, .slice tA tn tc], .pointer (some ⟨z, 0, none⟩), o.v, .int .u64 cn] w (Does R lo z w) := by
  obtain ⟨W0, hW0⟩ : ∃ W0, (w.alloc (.cells #[.int .i64 ts, .int .i64 tv, .slice tA tn tc] 24)).alloc (.cells o.box 33) = W0 := ⟨_, rfl⟩
  have hb0 : Below w.heap.size w W0 := hW0 ▸ ((Below.refl _ _).alloc (Nat.le_refl _) _).alloc (by simp) _
  have HK := hide_ (Kp.of (z := z) (hb0.mono hlo) hz)
  have HCR := hide_ (HC W0 hb0)
  have HW0 := hide_ hW0
  clear hW0 hb0 HC
  obtain ⟨ki, ke, cl, sq, ac, pa, ar, so, inc, ce⟩ := o
  simp only at ho
  subst ho
  simp only [OpM.v, OpM.box] at HW0 HCR ⊢
  go_enter Tryz.func30, Tryz.ntmps30
  go_wp2_with fail
  rw [HW0.out]
  refine HCR.out.mono ?_
  rintro en w1 ⟨y, rfl, hp, hat, hk⟩
  have HP := hide_ hp
  have HAT := hide_ hat
  have HKP := hide_ (HK.out.trans hk)
  clear hp hat hk
  go_wp2
  go_ret
  exact ⟨y, rfl, HP.out, HAT.out, HKP.out⟩

set_option maxRecDepth 100000 in
set_option maxHeartbeats 6400000 in
theorem do_read (ts tv : Int) (tA : Option Addr) (tn tc : Nat) (R : RegP × Int) (o : OpM) (cn : Int) (lo z : Nat) (w : World) (hlo : lo ≤ w.heap.size) (hz : z < lo) (ho : o.ki = 3)
    (HC : ∀ u, Below w.heap.size w u → Calls Tryz.prog 51 #[.pointer (some ⟨z, 0, none⟩)] u (Does R lo z u)) :
    Calls Tryz.prog 30 #[.agg #[.int .i64 ts, .int .i64 tv, .slice tA tn tc], .pointer (some ⟨z, 0, none⟩), o.v, .int .u64 cn] w (Does R lo z w) := by
  obtain ⟨W0, hW0⟩ : ∃ W0, (w.alloc (.cells #[.int .i64 ts, .int .i64 tv, .slice tA tn tc] 24)).alloc (.cells o.box 33) = W0 := ⟨_, rfl⟩
  have hb0 : Below w.heap.size w W0 := hW0 ▸ ((Below.refl _ _).alloc (Nat.le_refl _) _).alloc (by simp) _
  have HK := hide_ (Kp.of (z := z) (hb0.mono hlo) hz)
  have HCR := hide_ (HC W0 hb0)
  have HW0 := hide_ hW0
  clear hW0 hb0 HC
  obtain ⟨ki, ke, cl, sq, ac, pa, ar, so, inc, ce⟩ := o
  simp only at ho
  subst ho
  simp only [OpM.v, OpM.box] at HW0  ⊢
  go_enter Tryz.func30, Tryz.ntmps30
  go_wp2_with fail
  rw [HW0.out]
  refine HCR.out.mono ?_
  rintro en w1 ⟨y, rfl, hp, hat, hk⟩
  have HP := hide_ hp
  have HAT := hide_ hat
  have HKP := hide_ (HK.out.trans hk)
  clear hp hat hk
  go_wp2
  go_ret
  exact ⟨y, rfl, HP.out, HAT.out, HKP.out⟩

set_option maxRecDepth 100000 in
set_option maxHeartbeats 6400000 in
theorem do_remove (ts tv : Int) (tA : Option Addr) (tn tc : Nat) (R : RegP × Int) (o : OpM) (cn : Int) (lo z : Nat) (w : World) (hlo : lo ≤ w.heap.size) (hz : z < lo) (ho : o.ki = 4)
    (HC : ∀ u, Below w.heap.size w u → Calls Tryz.prog 52 #[.pointer (some ⟨z, 0, none⟩)] u (Does R lo z u)) :
    Calls Tryz.prog 30 #[.agg #[.int .i64 ts, .int .i64 tv, .slice tA tn tc], .pointer (some ⟨z, 0, none⟩), o.v, .int .u64 cn] w (Does R lo z w) := by
  obtain ⟨W0, hW0⟩ : ∃ W0, (w.alloc (.cells #[.int .i64 ts, .int .i64 tv, .slice tA tn tc] 24)).alloc (.cells o.box 33) = W0 := ⟨_, rfl⟩
  have hb0 : Below w.heap.size w W0 := hW0 ▸ ((Below.refl _ _).alloc (Nat.le_refl _) _).alloc (by simp) _
  have HK := hide_ (Kp.of (z := z) (hb0.mono hlo) hz)
  have HCR := hide_ (HC W0 hb0)
  have HW0 := hide_ hW0
  clear hW0 hb0 HC
  obtain ⟨ki, ke, cl, sq, ac, pa, ar, so, inc, ce⟩ := o
  simp only at ho
  subst ho
  simp only [OpM.v, OpM.box] at HW0  ⊢
  go_enter Tryz.func30, Tryz.ntmps30
  go_wp2_with fail
  rw [HW0.out]
  refine HCR.out.mono ?_
  rintro en w1 ⟨y, rfl, hp, hat, hk⟩
  have HP := hide_ hp
  have HAT := hide_ hat
  have HKP := hide_ (HK.out.trans hk)
  clear hp hat hk
  go_wp2
  go_ret
  exact ⟨y, rfl, HP.out, HAT.out, HKP.out⟩

set_option maxRecDepth 100000 in
set_option maxHeartbeats 6400000 in
theorem do_consume (ts tv : Int) (tA : Option Addr) (tn tc : Nat) (R : RegP × Int) (o : OpM) (cn : Int) (lo z : Nat) (w : World) (hlo : lo ≤ w.heap.size) (hz : z < lo) (ho : o.ki = 5)
    (HC : ∀ u, Below w.heap.size w u → Calls Tryz.prog 53 #[.agg #[.int .i64 ts, .int .i64 tv, .slice tA tn tc], .pointer (some ⟨z, 0, none⟩), o.v] u (Does R lo z u)) :
    Calls Tryz.prog 30 #[.agg #[.int .i64 ts, .int .i64 tv, .slice tA tn tc], .pointer (some ⟨z, 0, none⟩), o.v, .int .u64 cn] w (Does R lo z w) := by
  obtain ⟨W0, hW0⟩ : ∃ W0, (w.alloc (.cells #[.int .i64 ts, .int .i64 tv, .slice tA tn tc] 24)).alloc (.cells o.box 33) = W0 := ⟨_, rfl⟩
  have hb0 : Below w.heap.size w W0 := hW0 ▸ ((Below.refl _ _).alloc (Nat.le_refl _) _).alloc (by simp) _
  have HK := hide_ (Kp.of (z := z) (hb0.mono hlo) hz)
  have HCR := hide_ (HC W0 hb0)
  have HW0 := hide_ hW0
  clear hW0 hb0 HC
  obtain ⟨ki, ke, cl, sq, ac, pa, ar, so, inc, ce⟩ := o
  simp only at ho
  subst ho
  simp only [OpM.v, OpM.box] at HW0 HCR ⊢
  go_enter Tryz.func30, Tryz.ntmps30
  go_wp2_with fail
  rw [HW0.out]
  refine HCR.out.mono ?_
  rintro en w1 ⟨y, rfl, hp, hat, hk⟩
  have HP := hide_ hp
  have HAT := hide_ hat
  have HKP := hide_ (HK.out.trans hk)
  clear hp hat hk
  go_wp2
  go_ret
  exact ⟨y, rfl, HP.out, HAT.out, HKP.out⟩

set_option maxRecDepth 100000 in
set_option maxHeartbeats 6400000 in
theorem do_clear (ts tv : Int) (tA : Option Addr) (tn tc : Nat) (r : RegP) (o : OpM) (cn : Int) (lo z : Nat) (w : World) (hlo : lo ≤ w.heap.size) (hz : z < lo) (ho : o.ki = 6)
    (HC : ∀ u, Below w.heap.size w u → Calls Tryz.prog 54 #[.pointer (some ⟨z, 0, none⟩), .int .u64 o.inc, .int .u64 o.ce] u (Notes r lo z u)) :
    Calls Tryz.prog 30 #[.agg #[.int .i64 ts, .int .i64 tv, .slice tA tn tc], .pointer (some ⟨z, 0, none⟩), o.v, .int .u64 cn] w (Does (r, 0) lo z w) := by
  obtain ⟨W0, hW0⟩ : ∃ W0, (w.alloc (.cells #[.int .i64 ts, .int .i64 tv, .slice tA tn tc] 24)).alloc (.cells o.box 33) = W0 := ⟨_, rfl⟩
  have hb0 : Below w.heap.size w W0 := hW0 ▸ ((Below.refl _ _).alloc (Nat.le_refl _) _).alloc (by simp) _
  have HK := hide_ (Kp.of (z := z) (hb0.mono hlo) hz)
  have HCR := hide_ (HC W0 hb0)
  have HW0 := hide_ hW0
  clear hW0 hb0 HC
  obtain ⟨ki, ke, cl, sq, ac, pa, ar, so, inc, ce⟩ := o
  simp only at ho
  subst ho
  simp only [OpM.v, OpM.box] at HW0 HCR ⊢
  go_enter Tryz.func30, Tryz.ntmps30
  go_wp2_with fail
  rw [HW0.out]
  refine HCR.out.mono ?_
  rintro en w1 ⟨y, rfl, hp, hat, hk⟩
  have HP := hide_ hp
  have HAT := hide_ hat
  have HKP := hide_ (HK.out.trans hk)
  clear hp hat hk
  go_wp2
  go_ret
  exact ⟨y, rfl, HP.out, HAT.out, HKP.out⟩

set_option maxRecDepth 100000 in
set_option maxHeartbeats 6400000 in
theorem do_same (ts tv : Int) (tA : Option Addr) (tn tc : Nat) (x : RegM) (o : OpM) (cn : Int) (lo z : Nat) (w : World) (hlo : lo ≤ w.heap.size) (hz : z < lo) (ho : o.ki = 7)
    (h : At7 w lo z x) :
    Calls Tryz.prog 30 #[.agg #[.int .i64 ts, .int .i64 tv, .slice tA tn tc], .pointer (some ⟨z, 0, none⟩), o.v, .int .u64 cn] w (Does (x.p, 0) lo z w) := by
  obtain ⟨W0, hW0⟩ : ∃ W0, (w.alloc (.cells #[.int .i64 ts, .int .i64 tv, .slice tA tn tc] 24)).alloc (.cells o.box 33) = W0 := ⟨_, rfl⟩
  have hb0 : Below w.heap.size w W0 := hW0 ▸ ((Below.refl _ _).alloc (Nat.le_refl _) _).alloc (by simp) _
  have HK := hide_ (Kp.of (z := z) (hb0.mono hlo) hz)
  have H0 := hide_ (h.below hb0)
  have HW0 := hide_ hW0
  clear hW0 hb0 h
  obtain ⟨ki, ke, cl, sq, ac, pa, ar, so, inc, ce⟩ := o
  simp only at ho
  subst ho
  simp only [OpM.v, OpM.box] at HW0  ⊢
  go_enter Tryz.func30, Tryz.ntmps30
  go_wp2
  rw [HW0.out]
  go_ret
  exact ⟨x, rfl, rfl, H0.out, HK.out⟩

end Go.Proofs.YtccfjaefnejjmaaGreat
