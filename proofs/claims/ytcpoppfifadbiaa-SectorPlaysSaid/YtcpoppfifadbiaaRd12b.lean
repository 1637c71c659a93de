/-
  Contracts of the document's falls and burns.
-/
import Derived.Test.YtcpoppfifadbiaaRd12
import Derived.Deep.DeepCutAuto
namespace Go.Proofs.Ytcpoppfifadbiaa
open Go.RowKit

theorem refFalls12_any (x : RdM) (w : World) (h : RdM.ok w x) : Calls Try.prog 39 #[x.v] w (Ref12 w (fallsP x.p)) := by
  have H := hide_ h
  clear h
  obtain ⟨n, c, kA, kc, k, wA, wc, ws, off, falls, fuse⟩ := x
  simp only [RdM.v, RdM.cs]
  cases off
  · go_enter Try.func39, Try.ntmps39
    go_wp2
    refine bodyPost_ret (v := RdM.v ⟨n, c, kA, kc, k, wA, wc, ws, true, IntKind.u64.wrap (falls + 1), fuse⟩) (by simp [results, Try.results39, go_sem, RdM.v, RdM.cs]) rfl ?_
    have hb : ∀ o1 o2, Below w.heap.size w ((w.alloc o1).alloc o2) := fun o1 o2 => ((Below.refl _ _).alloc (Nat.le_refl _) _).alloc (by simp) _
    have h1 := fun o1 o2 => H.out.below (hb o1 o2)
    exact ⟨_, rfl, rfl, ⟨(h1 _ _).k, (h1 _ _).ws, H.out.f, H.out.sz, H.out.kl, H.out.wl⟩, hb _ _⟩
  · go_enter Try.func39, Try.ntmps39
    go_wp2
    refine bodyPost_ret (v := RdM.v ⟨n, c, kA, kc, k, wA, wc, ws, true, falls, fuse⟩) (by simp [results, Try.results39, go_sem, RdM.v, RdM.cs]) rfl ?_
    have hb : ∀ o1 o2, Below w.heap.size w ((w.alloc o1).alloc o2) := fun o1 o2 => ((Below.refl _ _).alloc (Nat.le_refl _) _).alloc (by simp) _
    have h1 := fun o1 o2 => H.out.below (hb o1 o2)
    exact ⟨_, rfl, rfl, ⟨(h1 _ _).k, (h1 _ _).ws, H.out.f, H.out.sz, H.out.kl, H.out.wl⟩, hb _ _⟩

def zcs12 : Array Value := #[.int .i64 0, .int .i64 0, .slice none 0 0, .slice none 0 0, .bool false, .int .u64 0, .int .i64 0]
theorem BoxAt.put7 {w : World} {z : Nat} {c0 c1 c2 c3 c4 c5 c6 : Value} {T : TypeId} (b : BoxAt w z #[c0, c1, c2, c3, c4, c5, c6] T) (v0 v1 v2 v3 v4 v5 v6 : Value) :
    BoxAt (((((((w.setCell ⟨z, 0, none⟩ v0).setCell ⟨z, 1, none⟩ v1).setCell ⟨z, 2, none⟩ v2).setCell ⟨z, 3, none⟩ v3).setCell ⟨z, 4, none⟩ v4).setCell ⟨z, 5, none⟩ v5).setCell ⟨z, 6, none⟩ v6) z #[v0, v1, v2, v3, v4, v5, v6] T := by
  have := ((((((b.set9 0 v0).set9 1 v1).set9 2 v2).set9 3 v3).set9 4 v4).set9 5 v5).set9 6 v6
  simpa using this
theorem grown_put7 (w : World) (z : Nat) (v0 v1 v2 v3 v4 v5 v6 : Value) :
    w.grownBy (((((((w.setCell ⟨z, 0, none⟩ v0).setCell ⟨z, 1, none⟩ v1).setCell ⟨z, 2, none⟩ v2).setCell ⟨z, 3, none⟩ v3).setCell ⟨z, 4, none⟩ v4).setCell ⟨z, 5, none⟩ v5).setCell ⟨z, 6, none⟩ v6) (some z) :=
  grown_set (grown_set (grown_set (grown_set (grown_set (grown_set (grown_set (World.grownBy.refl w _) 0 v0) 1 v1) 2 v2) 3 v3) 4 v4) 5 v5) 6 v6
theorem RdM.ok.grown {w w' : World} {x : RdM} {z : Nat} {cs : Array Value} (h : RdM.ok w x) (hz : BoxAt w z cs 34) (hg : w.grownBy w' (some z)) : RdM.ok w' x :=
  ⟨own_other9 h.k (hz.apart9 (by decide) h.k) hg, own_other9 h.ws (hz.apart9 (by decide) h.ws) hg, h.f, h.sz, h.kl, h.wl⟩
theorem burnsP_neg {p : RP} (h : p.fuse < 0) : burnsP p = (false, p) := if_pos h
theorem burnsP_zero {p : RP} (h : p.fuse = 0) : burnsP p = (true, fallsP p) := by rw [burnsP, if_neg (by omega), if_pos h]
theorem burnsP_pos {p : RP} (h : 0 < p.fuse) : burnsP p = (false, { p with fuse := p.fuse - 1 }) := by rw [burnsP, if_neg (by omega), if_neg (by omega)]
/-- what burns leaves -/
def Burns12 (w : World) (P : RP) (e : Ending) (w' : World) : Prop := ∃ x : RdM, e = .returned (.tuple #[.bool (burnsP P).1, x.v]) ∧ x.p = (burnsP P).2 ∧ RdM.ok w' x ∧ Below w.heap.size w w'

theorem refBurns12_any (x : RdM) (w : World) (h : RdM.ok w x) : Calls Try.prog 56 #[x.v] w (Burns12 w x.p) := by
  have H := hide_ h
  have hf := h.f
  clear h
  obtain ⟨n, c, kA, kc, k, wA, wc, ws, off, falls, fuse⟩ := x
  simp only at hf
  by_cases h1 : fuse < 0
  · simp only [RdM.v, RdM.cs]
    have e1 : burnsP (RdM.p ⟨n, c, kA, kc, k, wA, wc, ws, off, falls, fuse⟩) = (false, RdM.p ⟨n, c, kA, kc, k, wA, wc, ws, off, falls, fuse⟩) := burnsP_neg h1
    have E1 := hide_ e1
    clear e1
    go_enter Try.func56, Try.ntmps56
    go_wp2
    go_region
    go_wp2
    refine bodyPost_ret (v := .tuple #[.bool false, RdM.v ⟨n, c, kA, kc, k, wA, wc, ws, off, falls, fuse⟩]) (by simp [results, Try.results56, go_sem, RdM.v, RdM.cs]) rfl ?_
    have hb : ∀ o1 o2, Below w.heap.size w ((w.alloc o1).alloc o2).drew := fun o1 o2 => (((Below.refl _ _).alloc (Nat.le_refl _) _).alloc (by simp) _).drew
    exact ⟨⟨n, c, kA, kc, k, wA, wc, ws, off, falls, fuse⟩, by rw [E1.out], by rw [E1.out], H.out.below (hb _ _), hb _ _⟩
  · by_cases h0 : fuse = 0
    · have e1 : burnsP (RdM.p ⟨n, c, kA, kc, k, wA, wc, ws, off, falls, fuse⟩) = (true, fallsP (RdM.p ⟨n, c, kA, kc, k, wA, wc, ws, off, falls, fuse⟩)) := burnsP_zero h0
      have E1 := hide_ e1
      clear e1
      have HF := hide_ (fun (u : World) (hu : RdM.ok u ⟨n, c, kA, kc, k, wA, wc, ws, off, falls, fuse⟩) => refFalls12_any _ u hu)
      simp only [RdM.v, RdM.cs] at HF ⊢
      subst h0
      clear h1
      obtain ⟨W0, hW0, hx0, hz0, hs0⟩ : ∃ W0, (w.alloc (.cells (RdM.cs ⟨n, c, kA, kc, k, wA, wc, ws, off, falls, 0⟩) 34)).alloc (.cells zcs12 34) = W0 ∧ BoxAt W0 w.heap.size (RdM.cs ⟨n, c, kA, kc, k, wA, wc, ws, off, falls, 0⟩) 34 ∧ BoxAt W0 (w.heap.size + 1) zcs12 34 ∧ W0.heap.size = w.heap.size + 1 + 1 := ⟨_, rfl, (BoxAt.new w _ _).alloc _, by have := BoxAt.new (w.alloc (.cells (RdM.cs ⟨n, c, kA, kc, k, wA, wc, ws, off, falls, 0⟩) 34)) zcs12 34; simpa using this, by simp⟩
      have hb0 : Below w.heap.size w W0 := hW0 ▸ ((Below.refl _ _).alloc (Nat.le_refl _) _).alloc (by simp) _
      simp only [RdM.cs, zcs12] at hW0 hx0 hz0
      have HW0 := hide_ hW0
      have HX0 := hide_ hx0
      have HZ0 := hide_ hz0
      have HS0 := hide_ hs0
      have HB0 := hide_ hb0
      clear hW0 hx0 hz0 hs0 hb0
      go_enter Try.func56, Try.ntmps56
      go_upto_region 1 with fail
      rw [HW0.out]
      have hcx := HX0.out.cell
      go_wp2_with fail
      refine (HF.out _ (H.out.below HB0.out)).mono ?_
      rintro e w1 ⟨x1, rfl, hp, hok, hb1⟩
      have HP := hide_ hp
      have HO := hide_ hok
      have HB1 := hide_ hb1
      have HZ1 := hide_ (HZ0.out.below hb1)
      clear hp hok hb1 hcx
      obtain ⟨n1, c1, kA1, kc1, k1, wA1, wc1, ws1, off1, falls1, fuse1⟩ := x1
      simp only [RdM.v, RdM.cs]
      have hcz := HZ1.out.cell
      have hfz := HZ1.out.free9
      go_wp2_with fail
      have HE := hide_ (HZ1.out.put7 (.int .i64 (n1 : Int)) (.int .i64 (c1 : Int)) (.slice kA1 k1.length kc1) (.slice wA1 ws1.length wc1) (.bool off1) (.int .u64 falls1) (.int .i64 fuse1))
      have hq := HE.out.cell
      have q0 := hq 0
      have q1 := hq 1
      have q2 := hq 2
      have q3 := hq 3
      have q4 := hq 4
      have q5 := hq 5
      have q6 := hq 6
      simp only [List.getElem?_toArray, List.getElem?_cons_zero, List.getElem?_cons_succ] at q0 q1 q2 q3 q4 q5 q6
      clear hq hcz
      refine bodyPost_ret (v := .tuple #[.bool true, .agg #[.int .i64 (n1 : Int), .int .i64 (c1 : Int), .slice kA1 k1.length kc1, .slice wA1 ws1.length wc1, .bool off1, .int .u64 falls1, .int .i64 fuse1]]) (by simp [results, Try.results56, go_sem, q0, q1, q2, q3, q4, q5, q6]) rfl ?_
      have hG := grown_put7 w1 (w.heap.size + 1) (.int .i64 (n1 : Int)) (.int .i64 (c1 : Int)) (.slice kA1 k1.length kc1) (.slice wA1 ws1.length wc1) (.bool off1) (.int .u64 falls1) (.int .i64 fuse1)
      have hs1 := HB1.out.size
      have hs0 := HS0.out
      have hW := (HB0.out.trans (HB1.out.mono HB0.out.size)).grown hG (by omega) (fun k hk => by injection hk with hk; omega)
      exact ⟨⟨n1, c1, kA1, kc1, k1, wA1, wc1, ws1, off1, falls1, fuse1⟩, by rw [E1.out]; rfl, by rw [E1.out]; exact HP.out, HO.out.grown HZ1.out hG, hW⟩
    · have e1 : burnsP (RdM.p ⟨n, c, kA, kc, k, wA, wc, ws, off, falls, fuse⟩) = (false, RdM.p ⟨n, c, kA, kc, k, wA, wc, ws, off, falls, (fuse - 1)⟩) := burnsP_pos (by simp only [RdM.p]; omega)
      have E1 := hide_ e1
      clear e1
      have hw : IntKind.i64.wrap (fuse - 1) = fuse - 1 := by rw [IntKind.wrap_i64]; omega
      have hne : (fuse == 0) = false := beq_eq_false_iff_ne.2 h0
      simp only [RdM.v, RdM.cs]
      go_enter Try.func56, Try.ntmps56
      go_wp2
      go_region
      go_wp2
      refine bodyPost_ret (v := .tuple #[.bool false, RdM.v ⟨n, c, kA, kc, k, wA, wc, ws, off, falls, fuse - 1⟩]) (by simp [results, Try.results56, go_sem, RdM.v, RdM.cs]) rfl ?_
      have hb : ∀ o1 o2, Below w.heap.size w ((w.alloc o1).alloc o2).drew := fun o1 o2 => (((Below.refl _ _).alloc (Nat.le_refl _) _).alloc (by simp) _).drew
      have h2 := H.out.below (hb (.cells #[] 0) (.cells #[] 0))
      have h3 := fun o1 o2 => H.out.below (hb o1 o2)
      exact ⟨⟨n, c, kA, kc, k, wA, wc, ws, off, falls, fuse - 1⟩, by rw [E1.out], by rw [E1.out], ⟨(h3 _ _).k, (h3 _ _).ws, by simp only; omega, h2.sz, h2.kl, h2.wl⟩, hb _ _⟩
end Go.Proofs.Ytcpoppfifadbiaa
