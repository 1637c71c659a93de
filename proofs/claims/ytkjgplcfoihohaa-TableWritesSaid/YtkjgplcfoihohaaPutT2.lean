/-
  Contract of table's putFormula.
-/
import Derived.Test.YtkjgplcfoihohaaPutT
import Derived.Deep.RegionHeldLaw
import Derived.IntWalk
namespace Go.Proofs.Ytkjgplcfoihohaa
open Go.RowKit

section
variable {P : Program}
/-- append of bytes onto bytes of one's own, at a step of a region that draws its order -/
theorem step_append_row (w : World) {ops : Array Oper} {o : Oper} {a : Act} {K : Act → World → Prop} {Q : Exit → Act → World → Prop} {E : Prop} (hgd : Region.wanted o (yielded ops a.tmps) = true) (s x : Operand) (t : TypeId)
    (ho : o.op = .call { callee := .builtin .append, args := #[s, x], argTypes := #[t, t] })
    (base : Nat) (hinfo : (P.info? 5).map (fun i => (i.zero, i.size, i.bytes)) = some (some (.int .u8 0), 1, 1)) (ht : P.underlying t = some (.slice 5))
    (v : Value) (l1 l2 r : List UInt8) (hres : l1 ++ l2 = r) (hs : a.eval s = v) (hown : w.ownsRow base 5 1 v l1.length (bv l1))
    (B : Nat) (A : Option Addr) (m c : Nat) (hx : a.eval x = .slice A m c) (hl : l2.length = m) (hr : Sees w B A (bv l2)) (hn : l1.length ≤ 10000000 ∧ m ≤ 10000000) (hbase : base ≤ w.heap.size)
    (h : ∀ A' c' w', RowStep base v w (.slice A' r.length c') w' r → K (a.put o.dst (.slice A' r.length c')) w') :
    if Region.wanted o (yielded ops a.tmps) = true then Oper.wp P o a w K Q else E := by
  rw [if_pos hgd]
  obtain ⟨i0, hi, hz0, hz1, hz2⟩ := info_parts hinfo
  have e1 : l1.length + m = r.length := by rw [← hres, List.length_append]; omega
  obtain ⟨v', w', hrun, h2, h3, h4⟩ := run_append_sees (P := P) w base t o.type 5 i0 (.int .u8 0) 1 ht hi hz0 hz1 hz2 rfl v l1.length (bv l1) hown B A m c (bv l2) (by rw [bv_length, hl]) hr (bv_oneCell l2) (by unfold maxLen; omega) (by omega) hbase
  rw [e1, ← bv_append, hres] at h2
  obtain ⟨A', c', rfl⟩ := own_slice h2
  unfold Oper.wp execOp
  simp only [ho, resolve, invoke, builtin, Sem.run_bind, Sem.run_pure, Result.andThen_ok, List.map_toArray, List.map_cons, List.map_nil, hs, hx, hrun]
  refine h A' c' w' ⟨h2, h3, fun k hk => ?_⟩
  rcases h4 with h4 | h4
  · exact .inl (h4 ▸ hk)
  · rw [h4] at hk
    injection hk with hk
    exact .inr (by omega)
end

/-- a row of one's own isn't a block that has just been made -/
theorem own_old {w : World} {base : Nat} {v : Value} {r : List UInt8} (h : w.ownsRow base 5 1 v r.length (bv r)) {g : Nat} (hg : w.heap.size ≤ g) : v.ownBlock ≠ some g := fun e => by
  have := (h.lt g e).2
  omega
theorem iv_cells (l : List Int) : (l.map (Value.int .i64)).toArray.toList = iv l := rfl
theorem sees_nums {w : World} (l : List Int) (cs : Array Value) (t : TypeId) (h : cs = (l.map (Value.int .i64)).toArray) : Sees (w.alloc (.cells cs t)) (w.alloc (.cells cs t)).heap.size (some ⟨w.heap.size, 0, none⟩) (iv l) := by
  subst h
  have := sees_box w (l.map (Value.int .i64)).toArray t (iv l) rfl
  simpa using this

theorem sees_nums_z {w : World} (l : List Int) (cs : Array Value) (t : TypeId) (z : Nat) (hz : w.heap.size = z) (h : cs = (l.map (Value.int .i64)).toArray) : Sees (w.alloc (.cells cs t)) (z + 1) (some ⟨z, 0, none⟩) (iv l) := by
  subst hz h
  exact sees_box w (l.map (Value.int .i64)).toArray t (iv l) rfl
theorem sees_nums_drew {w : World} (l : List Int) (cs : Array Value) (t : TypeId) (z : Nat) (hz : w.heap.size = z) (h : cs = (l.map (Value.int .i64)).toArray) : Sees (w.alloc (.cells cs t)).drew (z + 1) (some ⟨z, 0, none⟩) (iv l) := (sees_nums_z l cs t z hz h).keep fun _ _ => rfl
/-- a call of putNums with a list that has just been made -/
theorem putNums_at (l r : List UInt8) (ns : List Int) (base : Nat) (v : Value) (q z : Nat) (w u : World) (C : Nat) (hC : C ≤ u.heap.size) (hb : Below w.heap.size w u) (hse : Sees u C (some ⟨z, 0, none⟩) (iv ns)) (hz : w.heap.size ≤ z) (hres : l ++ numsB ns = r) (hq : ns.length = q) (hq4 : q ≤ 4) (hn : ∀ x ∈ ns, 0 ≤ x ∧ x ≤ 9223372036854775807) (hl : l.length ≤ 1000000)
    (hown : w.ownsRow base 5 1 v l.length (bv l)) (hbase : base ≤ w.heap.size) :
    Calls Try.prog 33 #[v, .slice (some ⟨z, 0, none⟩) q q] u fun e w' => ∃ A c, e = .returned (.slice A r.length c) ∧ RowStep base v u (.slice A r.length c) w' r := by
  refine (putNums_any l r ns base v C (some ⟨z, 0, none⟩) q q _ hres hq hq4 hn hl (own_below hown hb) (Nat.le_trans hbase hb.size) hse hC (fun g o e => ?_)).mono ?_
  · injection e with e
    injection e with e _
    subst e
    exact own_old hown hz
  · rintro e w' ⟨A, c, rfl, hs⟩
    exact ⟨A, c, rfl, hs⟩

set_option maxRecDepth 100000 in
set_option maxHeartbeats 800000 in
theorem putFormula_any (l r : List UInt8) (s : TokS) (n : Nat) (hnn : s.l.length = n) (base : Nat) (v : Value) (B : Nat) (w : World) (hres : l ++ fmlB s.l = r) (hl : l.length ≤ 900000) (hn : s.l.length ≤ 24) (hs : toksOk w B s) (hB : B ≤ base)
    (hown : w.ownsRow base 5 1 v l.length (bv l)) (hbase : base ≤ w.heap.size) :
    Calls Try.prog 74 #[v, .slice s.A n s.c] w (PutsOn base v r w) := by
  obtain ⟨A, c, f⟩ := s
  simp only at hnn
  simp only [hnn] at hn
  have HS := hide_ hs.2.2.1
  have HT := hide_ hs.2.2.2
  have HN := hide_ hnn
  have HO := hide_ hown
  have HR := hide_ (show (l ++ natB n) ++ (f.take n).flatMap tokB = r by
    rw [← hnn, List.take_length, List.append_assoc]
    exact hres)
  have HL1 := hide_ (show l ++ numsB [(n : Int)] = l ++ natB n by simp [numsB])
  have HLE := hide_ (show (l ++ natB n).length ≤ 900010 by rw [List.length_append]; have := natB_len n (by omega); omega)
  have HB0 := hide_ ((Below.refl w.heap.size w).alloc (Nat.le_refl _) (.cells #[.int .i64 n] 3))
  have HSE0 := hide_ (sees_nums (w := w) [(n : Int)] #[.int .i64 n] 3 rfl)
  clear hs hnn hown hres
  go_enter Try.func74, Try.ntmps74
  go_wp2_with fail
  refine (putNums_at l (l ++ natB n) [(n : Int)] base v 1 _ w _ _ (Nat.le_refl _) HB0.out HSE0.out (Nat.le_refl _) HL1.out rfl (by omega) (by intro x hx; simp at hx; subst hx; omega) (by omega) HO.out hbase).mono ?_
  rintro en w1 ⟨A1, c1, rfl, hst1⟩
  have HST := hide_ (RowStep.fresh HB0.out hst1)
  clear hst1
  obtain ⟨l1, hl1⟩ : ∃ l1, l ++ natB n = l1 := ⟨_, rfl⟩
  rw [hl1] at HST HR HLE
  clear HL1
  rw [hl1]
  clear hl1
  go_wp2
  go_loopw [0, 14] (fun b i wr => ∃ (k : Nat), k ≤ n ∧ i = .int .i64 k ∧ Hid (RowStep base v w b wr (l1 ++ (f.take k).flatMap tokB))) (fun _ i _ => n - (intOf i).toNat)
  case atStart => exact ⟨0, Nat.zero_le _, rfl, hide_ (by simpa using HST.out)⟩
  case round =>
    obtain ⟨k, hk, rfl, HK⟩ := hrel
    have hzw : w.heap.size ≤ wr.heap.size := HK.out.grow.size
    have hbw : Below B w wr := HK.out.below HO.out hB (by omega)
    by_cases hlt : k < n
    · have hs1 := HS.out.below hbw
      obtain ⟨tb, ot, rfl, hab, h0, h1⟩ := hs1.tok (k := k) (by rw [HN.out]; exact hlt)
      have hwz : tb < wr.heap.size := by omega
      have hx : f[k]? = some (tk f k) := by unfold tk; rw [List.getD_eq_getElem?_getD, List.getElem?_eq_getElem (by rw [HN.out]; exact hlt)]; rfl
      have hxi := HT.out (tk f k) (List.mem_of_getElem? hx)
      have HX := hide_ (show l1 ++ (f.take (k + 1)).flatMap tokB = ((l1 ++ (f.take k).flatMap tokB) ++ natB (tk f k).1) ++ intB (tk f k).2 by
        rw [flat_snoc hx]
        unfold tokB
        simp only [List.append_assoc])
      have HLN := hide_ (show (l1 ++ (f.take k).flatMap tokB).length ≤ 950000 by
        have h1 := flat_take_le (f := tokB) (q := 20) f (fun z hz => tokB_len z (HT.out z hz)) k
        have h2 := HLE.out
        rw [HN.out] at h1
        rw [List.length_append]
        omega)
      generalize tk f k = t at h0 h1 hxi HX
      obtain ⟨o, N⟩ := t
      simp only at h0 h1 HX
      obtain ⟨l2, hl2⟩ : ∃ l2, l1 ++ (f.take (k + 1)).flatMap tokB = l2 := ⟨_, rfl⟩
      rw [hl2] at HX
      have HL2 := hide_ hl2
      clear hl2 hx hs1
      generalize l1 ++ (f.take k).flatMap tokB = la at HX HLN HK
      have HI := hide_ hxi.2.2
      have o1 : 0 ≤ o := hxi.1
      have o2 : o ≤ 255 := hxi.2.1
      clear hxi
      obtain ⟨lb, hlb⟩ : ∃ lb, la ++ natB o = lb := ⟨_, rfl⟩
      rw [hlb] at HX
      have HLA := hide_ (show la ++ numsB [o] = lb by rw [← hlb]; simp [numsB])
      have HLL := hide_ (show lb.length ≤ 950010 ∧ (intB N).length ≤ 10 by
        have h3 := HLN.out
        rw [← hlb, List.length_append]
        have := natB_len o (by omega)
        have := intB_len N HI.out
        omega)
      clear hlb
      have HU := hide_ (((((Below.refl wr.heap.size wr).alloc (Nat.le_refl _) (.cells #[.int .u8 o, .int .i64 N] 127))).alloc (by simp) (.cells #[.int .i64 o] 3)).drew)
      have HSU := hide_ (sees_nums_drew (w := wr.alloc (.cells #[.int .u8 o, .int .i64 N] 127)) [o] #[.int .i64 o] 3 (wr.heap.size + 1) (by simp) rfl)
      have HX0 := hide_ (show BoxAt (wr.alloc (.cells #[.int .u8 o, .int .i64 N] 127)).drew wr.heap.size #[.int .u8 o, .int .i64 N] 127 from BoxAt.new wr _ _)
      have HX1 := hide_ (show BoxAt ((wr.alloc (.cells #[.int .u8 o, .int .i64 N] 127)).alloc (.cells #[.int .i64 o] 3)).drew wr.heap.size #[.int .u8 o, .int .i64 N] 127 from HX0.out.alloc (.cells #[.int .i64 o] 3))
      have hwo : IntKind.i64.wrap o = o := IntWalk.i64_in _ (by omega)
      go_wp2
      go_region_held_law (fun w' => Hid (BoxAt w' wr.heap.size #[.int .u8 o, .int .i64 N] 127) ∧ (∀ i : Nat, w'.cell? ⟨wr.heap.size, i, none⟩ = (#[.int .u8 o, .int .i64 N] : Array Value)[i]?))
        (first | exact ⟨HX0, HX0.out.cell⟩ | exact ⟨HX1, HX1.out.cell⟩ | exact ⟨HX2, HX2.out.cell⟩ | exact ⟨HX3, HX3.out.cell⟩ | exact ⟨HX4, HX4.out.cell⟩)
        (first | (go_simp; go_at_call 33; refine (putNums_at la lb [o] base _ 1 _ wr _ _ (by simp) HU.out HSU.out (by omega) HLA.out rfl (by omega) (by intro x hx; simp at hx; subst hx; omega) (by have := HLN.out; omega) HK.out.own (by omega)).mono ?_; rintro en w2 ⟨A2, c2, rfl, hst2⟩; (have HST2 := hide_ (RowStep.fresh HU.out hst2)); (have HX2 := hide_ (HX1.out.step (by decide) (own_below HK.out.own HU.out) hst2)); clear hst2) | (go_simp; go_at_call 88; refine (PutInt_any [] (intB N) N w2.heap.size none 0 0 _ rfl rfl HI.out.1 HI.out.2 (Sees.empty _ _ _) (Nat.le_refl _) (by simp)).mono ?_; rintro en w3 ⟨A3, c3, rfl, hown3, hb3⟩; (have HB3 := hide_ hb3); (have HO3 := hide_ hown3); (have HX3 := hide_ (HX2.out.below hb3)); clear hb3 hown3) | (refine step_append_row _ rfl _ _ 27 rfl base u8_info Try.underlying27 _ lb (intB N) l2 HX.out.symm rfl (own_below HST2.out.own HB3.out) w3.heap.size A3 (intB N).length c3 rfl rfl (Sees.own HO3.out) ⟨by have := HLL.out.1; omega, by have := HLL.out.2; omega⟩ (by have := HB3.out.size; have := HST2.out.grow.size; omega) ?_; intro A4 c4 w4 hst4; (have HST4 := hide_ ((HST2.out.trans (RowStep.fresh HB3.out hst4)))); (have HX4 := hide_ (HX3.out.step (by decide) (own_below HST2.out.own HB3.out) hst4)); clear hst4))
      go_wp2
      go_roundw
      case rel => exact ⟨k + 1, by omega, by go_num, hide_ (by rw [HL2.out]; exact HK.out.trans HST4.out)⟩
      case measure => simp [intOf]; omega
    · obtain rfl : k = n := by omega
      have HK2 := hide_ (HR.out ▸ HK.out)
      clear HK
      obtain ⟨A3, c3, hA3⟩ := own_slice HK2.out.own
      subst hA3
      go_wp2
      go_ret
      exact ⟨_, _, rfl, HK2.out⟩
end Go.Proofs.Ytkjgplcfoihohaa
