/-
  Contract of the document's settled.
-/
import Derived.Test.YtcpoppfifadbiaaRd12b
namespace Go.Proofs.Ytcpoppfifadbiaa
open Go.RowKit

theorem own_some12 {w : World} {base n c size : Nat} {e : TypeId} {A : Option Addr} {xs : List Value} (h : w.ownsRow base e size (.slice A n c) n xs) (hn : 0 < n) : ∃ g, A = some ⟨g, 0, none⟩ ∧ base ≤ g ∧ g < w.heap.size := by
  rcases h.2 with ⟨_, h0⟩ | ⟨g, cap, cur, hv, hb, hg, _⟩
  · omega
  · injection hv with hA
    exact ⟨g, hA, hb, (Array.getElem?_eq_some_iff.1 hg).1⟩
theorem BoxAt.other12 {w : World} {g g' : Nat} {cs : Array Value} {t : TypeId} (h : BoxAt w g cs t) (hne : g' ≠ g) (i : Nat) (v : Value) : BoxAt (w.setCell ⟨g', i, none⟩ v) g cs t := ((grown_cell9 w g' i v).block g h.lt (fun e => hne (by injection e with e; exact e.symm))).trans h
theorem World.setCell_size12 (w : World) (p : Addr) (v : Value) : (w.setCell p v).heap.size = w.heap.size := by simp [World.setCell]
theorem str_info12 : (Try.prog.info? 9).map (fun i => (i.zero, i.size, i.bytes)) = some (some (.string { data := #[] }), 1, 16) := by kernel_rfl
theorem rw_info12 : (Try.prog.info? 78).map (fun i => (i.zero, i.size, i.bytes)) = some (some (.agg #[.int .i64 0, .string { data := #[] }]), 2, 24) := by kernel_rfl
theorem boxes12 (w : World) (X : Array Value) : ∃ W0, (w.alloc (.cells X 34)).alloc (.cells #[.int .i64 0, .int .i64 0, .slice none 0 0, .slice none 0 0, .bool false, .int .u64 0, .int .i64 0] 34) = W0 ∧ BoxAt W0 w.heap.size X 34 ∧
    BoxAt W0 (w.heap.size + 1) #[.int .i64 0, .int .i64 0, .slice none 0 0, .slice none 0 0, .bool false, .int .u64 0, .int .i64 0] 34 ∧ W0.heap.size = w.heap.size + 1 + 1 ∧ Below w.heap.size w W0 :=
  ⟨_, rfl, (BoxAt.new w _ _).alloc _, by have := BoxAt.new (w.alloc (.cells X 34)) #[.int .i64 0, .int .i64 0, .slice none 0 0, .slice none 0 0, .bool false, .int .u64 0, .int .i64 0] 34; simpa using this, by simp, ((Below.refl _ _).alloc (Nat.le_refl _) _).alloc (by simp) _⟩
theorem wC_get : ∀ (l : List (Nat × List UInt8)) (j : Nat) (q : Nat × List UInt8), l[j]? = some q → (wC l)[j * 2]? = some (.int .i64 (q.1 : Int)) ∧ (wC l)[j * 2 + 1]? = some (.string (strOf q.2))
  | [], j, q, h => by simp at h
  | q0 :: l, 0, q, h => by
    simp at h
    subst h
    exact ⟨rfl, rfl⟩
  | q0 :: l, j + 1, q, h => by
    have := wC_get l j q (by simpa using h)
    have e1 : (j + 1) * 2 = j * 2 + 1 + 1 := by omega
    rw [e1]
    simpa [wC] using this
theorem wC_length (l : List (Nat × List UInt8)) : (wC l).length = l.length * 2 := by
  induction l with
  | nil => rfl
  | cons q l ih => simp only [wC, List.flatMap_cons, List.length_append, List.length_cons, List.length_nil] at *; omega
theorem strC_one (k : List (List UInt8)) : ∀ u ∈ strC k, u.oneCell' = true := fun u hu => by
  obtain ⟨l, _, rfl⟩ := List.mem_map.1 hu
  rfl
theorem strC_length (k : List (List UInt8)) : (strC k).length = k.length := List.length_map _
theorem strC_set (k : List (List UInt8)) (i : Nat) (s : List UInt8) : (strC k).set i (.string (strOf s)) = strC (k.set i s) := by
  unfold strC
  rw [List.map_set]
theorem setls_length : ∀ (l : List (Nat × List UInt8)) (k : List (List UInt8)), (l.foldl setl k).length = k.length
  | [], _ => rfl
  | q :: l, k => by rw [List.foldl_cons, setls_length l]; exact List.length_set
theorem setls_mem : ∀ (l : List (Nat × List UInt8)) (k : List (List UInt8)) (n : Nat), (∀ s ∈ k, s.length = n) → (∀ q ∈ l, q.2.length = n) → ∀ s ∈ l.foldl setl k, s.length = n
  | [], _, _, hk, _ => hk
  | q :: l, k, n, hk, hl => setls_mem l _ n (fun s hs => by
      rcases List.mem_or_eq_of_mem_set hs with h | rfl
      · exact hk s h
      · exact hl q (by simp)) (fun r hr => hl r (by simp [hr]))
theorem own_cell12 {w : World} {base n c g : Nat} {xs : List Value} (h : w.ownsRow base 9 1 (.slice (some ⟨g, 0, none⟩) n c) n xs) (i : Nat) (hi : i < n) : ∃ v, w.cell? ⟨g, i, none⟩ = some v ∧ w.frozen? ⟨g, i, none⟩ = false := by
  have hs := Sees.ownRow9 h
  have hl := h.1
  obtain ⟨b, o, e, _, hc⟩ := hs.flat (by omega)
  injection e with e
  injection e with e1 e2
  subst e1 e2
  have := hc i _ (List.getElem?_eq_getElem (by omega))
  rw [Nat.zero_add] at this
  refine ⟨_, this, ?_⟩
  rcases h.2 with ⟨hv, _⟩ | ⟨g', cap, cur, hv, _, hg', _⟩
  · cases hv
  · injection hv with hv
    injection hv with hv
    injection hv with hv
    subst hv
    simp [World.frozen?, hg']

set_option maxRecDepth 100000 in
set_option maxHeartbeats 1600000 in
theorem refSettled12_any (x : RdM) (l : List (Nat × List UInt8)) (B : Nat) (A : Option Addr) (m cp : Nat) (w : World) (h : RdM.ok w x) (hl : Sees w B A (wC l)) (hm : l.length = m) (hB : B ≤ w.heap.size) (hin : ∀ q ∈ l, q.1 < x.c ∧ q.2.length = x.n) (hn : m ≤ 100000) :
    Calls Try.prog 40 #[x.v, .slice A m cp] w (Ref12 w (settledP x.p l)) := by
  have H := hide_ h
  have hsz := h.sz
  obtain ⟨n, c, kA, kc, k, wA, wc, ws, off, falls, fuse⟩ := x
  simp only at hsz hin
  simp only [RdM.v, RdM.cs]
  obtain ⟨W0, hW0, hx0, hz0, hs0, hb0⟩ := boxes12 w #[.int .i64 (n : Int), .int .i64 (c : Int), .slice kA k.length kc, .slice wA ws.length wc, .bool off, .int .u64 falls, .int .i64 fuse]
  have HKS := hide_ (Sees.ownRow9 ((h.below hb0).k.alloc (.cells #[] 9)))
  have HLS := hide_ (fun (u : World) (hu : Below W0.heap.size W0 u) => hl.below ((hb0.trans (hu.mono hb0.size)).mono hB))
  have H0 := hide_ (own_empty9 (w := W0) (base := W0.heap.size) (s := 1) 9 (Nat.le_refl _))
  have HIN := hide_ hin
  have HM := hide_ hm
  have HW0 := hide_ hW0
  have HX0 := hide_ hx0
  have HZ0 := hide_ hz0
  have HS0 := hide_ hs0
  have HB0 := hide_ hb0
  have hk4 : k.length ≤ 4096 := by omega
  have HKL := hide_ (show k.length = c from hsz.2.2.2.1)
  have HA0 := hide_ (show Below W0.heap.size W0 (W0.alloc (.cells #[] 9)) from (Below.refl _ _).alloc (Nat.le_refl _) _)
  have H1 := hide_ (strC_one k)
  have HX1 := hide_ (hx0.alloc (.cells #[] 9))
  clear hW0 hx0 hz0 hs0 hb0 h hl hin hm hsz
  go_enter Try.func40, Try.ntmps40
  go_upto_region 1 with fail
  rw [HW0.out]
  have hcx := HX1.out.cell
  go_wp2_with (at_builtin; refine wpList_append_grown _ rfl _ _ 30 rfl W0.heap.size 9 (.string { data := #[] }) 1 16 str_info12 rfl (by omega) Try.underlying30 _ 0 [] rfl H0.out _ kA k.length kc (strC k) rfl (by rw [strC_length, Nat.mul_one]) HKS.out H1.out (by omega) (by omega) (by simp) k.length (by omega) (strC k) rfl ?_; intro A1 c1 w1 hown hb; have HO1 := hide_ hown; have HG1 := hide_ (show (W0.alloc (.cells #[] 9)).grownBy w1 (some W0.heap.size) from hb); clear hown hb)
  have HB1 := hide_ (HA0.out.grown HG1.out (by simp) (fun k e => by injection e with e; omega))
  clear hcx HX1 HA0 HG1 H0 HKS H1
  go_loopw [6, 13] (fun _ i wr => ∃ j : Nat, j ≤ m ∧ i = .int .i64 (j : Int) ∧ Hid (wr.ownsRow W0.heap.size 9 1 (.slice A1 k.length c1) k.length (strC ((l.take j).foldl setl k))) ∧ Hid (Below W0.heap.size W0 wr)) (fun _ i _ => m - (intOf i).toNat)
  case atStart => exact ⟨0, Nat.zero_le _, rfl, HO1, HB1⟩
  case round =>
    obtain ⟨j, hj, rfl, HO, HB⟩ := hrel
    by_cases hlt : j < m
    case neg =>
      obtain rfl : j = m := by omega
      have htk : l.take j = l := List.take_of_length_le (by rw [HM.out]; exact Nat.le_refl _)
      rw [htk] at HO
      have HX2 := hide_ (HX0.out.below HB.out)
      have HZ2 := hide_ (HZ0.out.below HB.out)
      have hcx := HX2.out.cell
      have hfx := HX2.out.free9
      have hcz := HZ2.out.cell
      have hfz := HZ2.out.free9
      clear htk
      go_wp2
      have HZ3 := hide_ (HZ2.out.other12 (g' := w.heap.size) (by omega) 2 (.slice A1 k.length c1))
      have HE := hide_ (HZ3.out.put7 (.int .i64 (n : Int)) (.int .i64 (c : Int)) (.slice A1 k.length c1) (.slice wA ws.length wc) (.bool off) (.int .u64 falls) (.int .i64 fuse))
      have hq := HE.out.cell
      have q0 := hq 0
      have q1 := hq 1
      have q2 := hq 2
      have q3 := hq 3
      have q4 := hq 4
      have q5 := hq 5
      have q6 := hq 6
      simp only [List.getElem?_toArray, List.getElem?_cons_zero, List.getElem?_cons_succ] at q0 q1 q2 q3 q4 q5 q6
      clear hq hcz hcx
      refine bodyPost_ret (v := .agg #[.int .i64 (n : Int), .int .i64 (c : Int), .slice A1 k.length c1, .slice wA ws.length wc, .bool off, .int .u64 falls, .int .i64 fuse]) (by simp [results, Try.results40, go_sem, q0, q1, q2, q3, q4, q5, q6]) rfl ?_
      have hG1 := grown_cell9 wr w.heap.size 2 (.slice A1 k.length c1)
      have hG := grown_put7 (wr.setCell ⟨w.heap.size, 2, none⟩ (.slice A1 k.length c1)) (w.heap.size + 1) (.int .i64 (n : Int)) (.int .i64 (c : Int)) (.slice A1 k.length c1) (.slice wA ws.length wc) (.bool off) (.int .u64 falls) (.int .i64 fuse)
      have hs1 := HB.out.size
      have hs0 := HS0.out
      have hbw := HB0.out.trans (HB.out.mono HB0.out.size)
      have hW1 := hbw.grown hG1 (by omega) (fun k hk => by injection hk with hk; omega)
      have hW := hW1.grown hG (by simp only [World.setCell_size12]; omega) (fun k hk => by injection hk with hk; omega)
      have hws := own_below H.out.ws hbw
      have e1 := own_other9 HO.out (HX2.out.apart9 (by decide) HO.out) hG1
      have e2 := own_other9 hws (HX2.out.apart9 (by decide) hws) hG1
      have e3 := own_other9 e1 (HZ3.out.apart9 (by decide) e1) hG
      have e4 := own_other9 e2 (HZ3.out.apart9 (by decide) e2) hG
      refine ⟨⟨n, c, A1, c1, l.foldl setl k, wA, wc, ws, off, falls, fuse⟩, by simp only [RdM.v, RdM.cs, setls_length], rfl, ⟨?_, e4, H.out.f, ?_, ?_, H.out.wl⟩, hW⟩
      · simp only [setls_length]
        exact own_mono e3 (Nat.zero_le _)
      · simp only [setls_length]
        exact H.out.sz
      · exact setls_mem l k n H.out.kl (fun q hq => (HIN.out q hq).2)
    case pos =>
      obtain ⟨⟨qi, qs⟩, hq⟩ : ∃ q, l[j]? = some q := ⟨_, List.getElem?_eq_getElem (by rw [HM.out]; exact hlt)⟩
      have htk : l.take (j + 1) = l.take j ++ [(qi, qs)] := by rw [List.take_add_one, hq]; rfl
      have HTK := hide_ htk
      obtain ⟨b, o, rfl, hb, hfl⟩ := (HLS.out _ HB.out).flat (by rw [wC_length, HM.out]; omega)
      obtain ⟨g1, g2⟩ := wC_get l j _ hq
      have hc1 := hfl _ _ g1
      have hc2 := hfl _ _ g2
      obtain ⟨h1, h2⟩ := HIN.out _ (List.mem_of_getElem? hq)
      simp only at h1 h2 hc1 hc2
      rw [← Nat.add_assoc] at hc2
      have hqk : qi < k.length := by rw [HKL.out]; exact h1
      obtain ⟨g, rfl, hgb, hgl⟩ := own_some12 HO.out (by omega)
      obtain ⟨v, hcg, hfg⟩ := own_cell12 HO.out qi hqk
      clear htk hq hfl g1 g2 h1
      go_wp2
      go_region
      go_wp2
      obtain ⟨h3, h4⟩ := HO.out.stored qi (.string (strOf qs))
      rw [strC_set] at h3
      have e : List.foldl setl k (l.take (j + 1)) = (List.foldl setl k (l.take j)).set qi qs := by rw [HTK.out, List.foldl_append]; rfl
      refine ⟨⟨j + 1, hlt, rfl, hide_ ?_, hide_ (((HB.out.grown h4 HB.out.size (fun k e => by injection e with e; omega))).drew)⟩, by simp only [intOf]; omega⟩
      rw [e]
      exact own_below h3 ((Below.refl _ _).drew)
end Go.Proofs.Ytcpoppfifadbiaa
