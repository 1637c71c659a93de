/-
  Texts of this claim put together: Same13.
-/
import Derived.Test.YtecbpmnolgkllaaJ50
import Derived.BigQuiet
import Derived.Deep.QuietTactic
/-
  The law's own small functions: its bound, records as texts, whether records are the same, its example.
-/
namespace Go.Proofs.Ytecbpmnolgkllaa
open Go.RowKit

def GreatJ (n c : Int) (l : List ActM) (e : Ending) : Prop := ∃ b : Bool, e = .returned (.bool b) ∧ (b = false → (64 ≤ n ∧ n ≤ 512 ∧ 1 ≤ c ∧ c ≤ 60 ∧ l.length ≤ 40) ∧ ∀ a ∈ l, a.rs.l.length ≤ 10 ∧ ∀ r ∈ a.rs.l, r.l.length ≤ 2100)
theorem greatJ_no {n c : Int} {l : List ActM} {e : Ending} (h : e = .returned (.bool false)) (h2 : (64 ≤ n ∧ n ≤ 512 ∧ 1 ≤ c ∧ c ≤ 60 ∧ l.length ≤ 40) ∧ ∀ a ∈ l, a.rs.l.length ≤ 10 ∧ ∀ r ∈ a.rs.l, r.l.length ≤ 2100) : GreatJ n c l e := ⟨false, h, fun _ => h2⟩
theorem greatJ_yes {n c : Int} {l : List ActM} {e : Ending} (h : e = .returned (.bool true)) : GreatJ n c l e := ⟨true, h, fun e => by cases e⟩

set_option maxRecDepth 100000 in
theorem great13_any (n c : Int) (s : Sl ActM) (B : Nat) (w : World) (h : actsOk w B s) : Calls Try.prog 6 #[.int .i64 n, .int .i64 c, s.v] w fun e w' => GreatJ n c s.l e ∧ w = w' := by
  obtain ⟨A, cp, l⟩ := s
  obtain ⟨_, _, hs, hok⟩ := h
  simp only [Sl.v] at *
  have HMK := hide_ (fun (e : Ending) (he : e = .returned (.bool true)) => greatJ_yes (n := n) (c := c) (l := l) he)
  have HNO := hide_ (fun (e : Ending) (he : e = .returned (.bool false)) hh => greatJ_no (n := n) (c := c) (l := l) he hh)
  obtain ⟨G, hG⟩ : ∃ G : Ending → Prop, GreatJ n c l = G := ⟨_, rfl⟩
  simp only [hG] at HMK HNO ⊢
  obtain ⟨m, hm⟩ : ∃ m, l.length = m := ⟨_, rfl⟩
  rw [hm]
  have HS := hide_ hs
  have HOK := hide_ hok
  have HM := hide_ hm
  clear hs hok hG
  by_cases h1 : n < 64
  · clear hm
    go_enter Try.func6, Try.ntmps6
    go_wp2
    go_ret
    exact ⟨HMK.out _ rfl, rfl⟩
  by_cases h2 : 512 < n
  · clear hm
    go_enter Try.func6, Try.ntmps6
    go_wp2
    go_ret
    exact ⟨HMK.out _ rfl, rfl⟩
  by_cases h3 : c < 1
  · clear hm
    go_enter Try.func6, Try.ntmps6
    go_wp2
    go_ret
    exact ⟨HMK.out _ rfl, rfl⟩
  by_cases h4 : 60 < c
  · clear hm
    go_enter Try.func6, Try.ntmps6
    go_wp2
    go_ret
    exact ⟨HMK.out _ rfl, rfl⟩
  by_cases h5 : 40 < m
  · clear hm
    go_enter Try.func6, Try.ntmps6
    go_wp2
    go_ret
    exact ⟨HMK.out _ rfl, rfl⟩
  clear hm
  go_enter Try.func6, Try.ntmps6
  go_wp2
  go_loopw [7, 8] (fun i _ wr => ∃ k : Nat, k ≤ m ∧ i = .int .i64 (k : Int) ∧ Hid (∀ j a, j < k → l[j]? = some a → a.rs.l.length ≤ 10 ∧ ∀ r ∈ a.rs.l, r.l.length ≤ 2100) ∧ Hid (wr = w)) (fun i _ _ => m - (intOf i).toNat)
  case atStart => exact ⟨0, Nat.zero_le _, rfl, hide_ (fun j x hj => absurd hj (by omega)), hide_ rfl⟩
  case round =>
    obtain ⟨k, hk, rfl, HJ, HWR⟩ := hrel
    by_cases hlt : k < m
    · obtain ⟨x, hx⟩ : ∃ x, l[k]? = some x := ⟨_, List.getElem?_eq_getElem (by rw [HM.out]; exact hlt)⟩
      obtain ⟨b, o, rfl, hb, _, q1⟩ := HS.out.act hx
      obtain ⟨_, _, hrs, hrok⟩ := HOK.out x (List.mem_of_getElem? hx)
      have HX := hide_ hx
      rw [← HWR.out] at q1
      obtain ⟨xc, ra, rc, rl⟩ := x
      simp only at q1 hrs hrok
      obtain ⟨z, hz⟩ : ∃ z, rl.length = z := ⟨_, rfl⟩
      rw [hz] at q1
      have HZ := hide_ hz
      have HRS := hide_ (br_flat rl ▸ hrs)
      clear hx hz hrs hrok
      obtain ⟨wo, hwo⟩ : ∃ wo, wo = wr := ⟨_, rfl⟩
      subst hwo
      by_cases h6 : 10 < z
      · go_wp2
        go_ret
        exact ⟨HMK.out _ rfl, HWR.out.symm⟩
      · go_wp2
        go_loopw [8] (fun i wx => ∃ j : Nat, j ≤ z ∧ i = .int .i64 (j : Int) ∧ Hid (∀ y r, y < j → rl[y]? = some r → r.l.length ≤ 2100) ∧ Hid (wx = wo)) (fun i _ => z - (intOf i).toNat)
        case atStart => exact ⟨0, Nat.zero_le _, rfl, hide_ (fun j x hj => absurd hj (by omega)), hide_ rfl⟩
        case round =>
          obtain ⟨j, hj, rfl, HY, HWX⟩ := hrel
          have p1 := q1
          rw [← HWX.out] at p1
          by_cases hjz : j < z
          · obtain ⟨r, hr⟩ : ∃ r, rl[j]? = some r := ⟨_, List.getElem?_eq_getElem (by rw [HZ.out]; exact hjz)⟩
            obtain ⟨b2, o2, rfl, hb2, hc2⟩ := HRS.out.flat (by rw [List.length_map, HZ.out]; omega)
            have p2 := hc2 j _ (by rw [List.getElem?_map, hr]; rfl)
            rw [← HWR.out, ← HWX.out] at p2
            have HR := hide_ hr
            obtain ⟨sa, sc, sl⟩ := r
            simp only [Sl.v] at p2
            obtain ⟨y, hy⟩ : ∃ y, sl.length = y := ⟨_, rfl⟩
            rw [hy] at p2
            have HYL := hide_ hy
            clear hr hy hc2
            by_cases h7 : 2100 < y
            · go_wp2
              go_ret
              exact ⟨HMK.out _ rfl, HWR.out.symm.trans HWX.out.symm⟩
            · go_wp2
              go_roundw
              case rel =>
                refine ⟨j + 1, by omega, by go_num, hide_ fun y2 r2 h8 h9 => ?_, HWX⟩
                by_cases e : y2 = j
                · subst e
                  rw [HR.out] at h9
                  injection h9 with h9
                  subst h9
                  have := HYL.out
                  simp only
                  omega
                · exact HY.out y2 r2 (by omega) h9
              case measure => simp [intOf]; omega
          · have hjz2 : z = j := by omega
            subst hjz2
            go_wp2
            go_roundw
            case rel =>
              refine ⟨k + 1, by omega, by go_num, hide_ fun j2 a h8 h9 => ?_, hide_ (HWX.out.trans HWR.out)⟩
              by_cases e : j2 = k
              · subst e
                rw [HX.out] at h9
                injection h9 with h9
                subst h9
                refine ⟨?_, fun r hr => ?_⟩
                · simp only
                  have := HZ.out
                  omega
                · obtain ⟨y, hy⟩ := List.mem_iff_getElem?.1 hr
                  have := (List.getElem?_eq_some_iff.1 hy).1
                  simp only at hy this
                  rw [HZ.out] at this
                  exact HY.out y r this hy
              · exact HJ.out j2 a (by omega) h9
            case measure => simp [intOf]; omega
    · have hkm : m = k := by omega
      subst hkm
      have HF := hide_ (show (64 ≤ n ∧ n ≤ 512 ∧ 1 ≤ c ∧ c ≤ 60 ∧ l.length ≤ 40) ∧ ∀ a ∈ l, a.rs.l.length ≤ 10 ∧ ∀ r ∈ a.rs.l, r.l.length ≤ 2100 from ⟨by rw [HM.out]; omega, fun a ha => by
        obtain ⟨j, hj⟩ := List.mem_iff_getElem?.1 ha
        have := (List.getElem?_eq_some_iff.1 hj).1
        rw [HM.out] at this
        exact HJ.out j a this hj⟩)
      go_wp2
      go_ret
      exact ⟨HNO.out _ rfl HF.out, HWR.out.symm⟩

def strV (l : List (List UInt8)) : List Value := l.map fun r => Value.string (strOf r)
theorem str_info13 : (Try.prog.info? 9).map (fun i => (i.zero, i.size, i.bytes)) = some (some (.string { data := #[] }), 1, 16) := by kernel_rfl
theorem str_eq13 (a b : List UInt8) (h : strOf a = strOf b) : a = b := by
  have := congrArg ByteArray.toList h
  rwa [strOf_toList, strOf_toList] at this

set_option maxRecDepth 100000 in
theorem texts_any (w : World) (A : Option Addr) (b o n c : Nat) (l : List (List UInt8)) (hn : l.length = n) (hn9 : n ≤ 5000) (h : LRecs w w.heap.size A b o l) :
    Calls Try.prog 15 #[.slice A n c] w fun e w' => ∃ A1 c1, e = .returned (.slice A1 n c1) ∧ w'.ownsRow w.heap.size 9 1 (.slice A1 n c1) n (strV l) ∧ Below w.heap.size w w' := by
  have HL := hide_ h
  have HN := hide_ hn
  have H0 := hide_ (own_empty9 (w := w) (base := w.heap.size) (s := 1) 9 (Nat.le_refl _))
  have HA0 := hide_ (show Below w.heap.size w (w.alloc (.cells #[] 9)) from (Below.refl _ _).alloc (Nat.le_refl _) _)
  clear h hn
  go_enter Try.func15, Try.ntmps15
  go_wp2
  go_loopw [3, 4] (fun v i wr => ∃ (k : Nat) (A1 : Option Addr) (c1 : Nat), k ≤ n ∧ i = .int .i64 (k : Int) ∧ v = .slice A1 k c1 ∧ Hid (wr.ownsRow w.heap.size 9 1 (.slice A1 k c1) k (strV (l.take k))) ∧ Hid (Below w.heap.size w wr)) (fun _ i _ => n - (intOf i).toNat)
  case atStart => exact ⟨0, _, _, Nat.zero_le _, rfl, rfl, H0, HA0⟩
  case round =>
    obtain ⟨k, A1, c1, hk, rfl, rfl, HO, HB⟩ := hrel
    by_cases hlt : k < n
    · have hkl : k < l.length := by rw [HN.out]; exact hlt
      obtain ⟨r, hr⟩ : ∃ r, l[k]? = some r := ⟨_, List.getElem?_eq_getElem hkl⟩
      have hA := (HL.out.a (by omega)).1
      have hAb := (HL.out.a (by omega)).2
      obtain ⟨Ar, cr, xr, sr⟩ := (HL.out.below HB.out).r k r hr
      subst hA
      have hconv := run_str (P := Try.prog) wr 38 9 5 Try.underlying38 Try.underlying5 Try.underlying9 r _ Ar r.length cr rfl sr
      obtain ⟨z, hz⟩ : ∃ z, r.length = z := ⟨_, rfl⟩
      obtain ⟨s, hs⟩ : ∃ s, strOf r = s := ⟨_, rfl⟩
      rw [hz] at xr hconv
      rw [hs] at hconv
      have HCV := hide_ (show strV (l.take k) ++ [.string s] = strV (l.take (k + 1)) from by
        obtain ⟨h1, h2⟩ := List.getElem?_eq_some_iff.1 hr
        rw [List.take_succ_eq_append_getElem h1, h2, strV, strV, List.map_append, ← hs]
        rfl)
      have HOA := hide_ (HO.out.alloc (.cells #[.string s] 9))
      have HSN := hide_ (sees_box wr #[.string s] 9 [.string s] rfl)
      have H1 := hide_ (show ∀ u ∈ [Value.string s], u.oneCell' = true from fun u hu => by
        rw [List.mem_singleton.1 hu]
        rfl)
      have hws := HB.out.size
      have HBA := hide_ (HB.out.alloc HB.out.size (.cells #[.string s] 9))
      clear hr hs hz sr hkl
      go_wp2_with (at_builtin; refine wpList_append_cells _ rfl _ _ 41 rfl w.heap.size 9 (.string { data := #[] }) 1 16 str_info13 rfl (by omega) Try.underlying41 _ k _ rfl HOA.out (wr.heap.size + 1) (some ⟨wr.heap.size, 0, none⟩) 1 1 [.string s] rfl rfl HSN.out H1.out (by omega) (by omega) (by simp; omega) (k + 1) rfl _ HCV.out ?_; intro A2 c2 w3 hown hb3; have HO3 := hide_ hown; have HB3 := hide_ hb3; clear hown hb3)
      go_roundw
      case rel => exact ⟨k + 1, A2, c2, hlt, by go_num, rfl, HO3, hide_ (HBA.out.trans HB3.out)⟩
      case measure => simp [intOf]; omega
    · have hkn : n = k := by omega
      subst hkn
      have hO := HO.out
      rw [List.take_of_length_le (by rw [HN.out]; exact Nat.le_refl _)] at hO
      have HO2 := hide_ hO
      clear hO
      go_wp2
      go_ret
      exact ⟨A1, c1, rfl, HO2.out, HB.out⟩

set_option maxRecDepth 100000 in
theorem refSame13_any (w : World) (A A2 : Option Addr) (b o n c c2 : Nat) (l : List (List UInt8)) (hn : l.length = n) (hn9 : n ≤ 5000) (h : LRecs w w.heap.size A b o l) (h2 : Sees w w.heap.size A2 (strV l)) :
    Calls Try.prog 14 #[.slice A n c, .slice A2 n c2] w fun e w' => e = .returned (.bool true) ∧ Below w.heap.size w w' := by
  have HL := hide_ h
  have HN := hide_ hn
  have H2 := hide_ h2
  clear h hn h2
  go_enter Try.func14, Try.ntmps14
  go_wp2
  go_loopw [5, 13] (fun _ i wr => ∃ k : Nat, k ≤ n ∧ i = .int .i64 (k : Int) ∧ Hid (Below w.heap.size w wr)) (fun _ i _ => n - (intOf i).toNat)
  case atStart => exact ⟨0, Nat.zero_le _, rfl, hide_ (Below.refl _ _)⟩
  case round =>
    obtain ⟨k, hk, rfl, HB⟩ := hrel
    by_cases hlt : k < n
    · have hkl : k < l.length := by rw [HN.out]; exact hlt
      obtain ⟨r, hr⟩ : ∃ r, l[k]? = some r := ⟨_, List.getElem?_eq_getElem hkl⟩
      have hA := (HL.out.a (by omega)).1
      subst hA
      obtain ⟨b2, o2, rfl, hb2, hc2⟩ := H2.out.flat (by rw [strV, List.length_map, HN.out]; omega)
      obtain ⟨Ar, cr, xr, sr⟩ := HL.out.r k r hr
      have hab := (HL.out.a (by omega)).2
      have HSS := hide_ (show ∀ v, Below w.heap.size w v → v.cell? ⟨b, o + k, none⟩ = some (.slice Ar r.length cr) ∧ (convert 38 9 (.slice Ar r.length cr)).run Try.prog v = .ok (.string (strOf r)) v ∧ v.cell? ⟨b2, o2 + k, none⟩ = some (.string (strOf r)) from fun v hbv =>
        ⟨(hbv.cell (p := ⟨b, o + k, none⟩) hab).trans xr, run_str (P := Try.prog) v 38 9 5 Try.underlying38 Try.underlying5 Try.underlying9 r _ Ar r.length cr rfl (sr.below hbv), (hbv.cell (p := ⟨b2, o2 + k, none⟩) hb2).trans (hc2 k _ (by rw [strV, List.getElem?_map, hr]; rfl))⟩)
      obtain ⟨y1, y2, y3⟩ := HSS.out wr HB.out
      obtain ⟨-, y4, -⟩ := HSS.out wr.drew HB.out.drew
      obtain ⟨z, hz⟩ : ∃ z, r.length = z := ⟨_, rfl⟩
      obtain ⟨s, hs⟩ : ∃ s, strOf r = s := ⟨_, rfl⟩
      rw [hz] at y1 y2 y4
      rw [hs] at y2 y3 y4
      have hz1 : b < wr.heap.size := Nat.lt_of_lt_of_le (HL.out.a (by omega)).2 HB.out.size
      have hz2 : b2 < wr.heap.size := Nat.lt_of_lt_of_le hb2 HB.out.size
      have HBD := hide_ HB.out.drew
      clear hr hs hz hkl hc2 HSS xr sr hab
      go_upto_region 6 with fail
      go_region
      go_wp2
      go_roundw
      case rel => exact ⟨k + 1, hlt, by first | go_num | (simp; omega), HBD⟩
      case measure => simp [intOf]; omega
    · have hkn : n = k := by omega
      subst hkn
      go_wp2
      go_ret
      exact ⟨rfl, HB.out⟩

set_option maxRecDepth 100000 in
theorem awake13_any (w : World) : Calls Try.prog 7 #[] w fun e w' => e = .returned (.bool true) ∧ Below w.heap.size w w' := by
  have HN := hide_ (New_good 64 6 w (by omega) (by omega) (by omega) (by omega))
  go_enter Try.func7, Try.ntmps7
  go_wp2_with fail
  refine HN.out.mono ?_
  rintro e w1 ⟨L, rfl, hd1, hb1, hs1⟩
  have HO := hide_ (Open_any hd1 (Fits13.make (n := 64) (c := 6) (by omega)))
  have HB1 := hide_ hb1
  clear hd1 hb1 hs1
  obtain ⟨bc, hbc⟩ : ∃ bc, L.b = bc := ⟨_, rfl⟩
  rw [hbc] at HO ⊢
  clear hbc
  go_wp2_with fail
  refine HO.out.mono ?_
  rintro e w2 ⟨jb, A, c1, vs, rfl, hj, hja, ho, hr, hb⟩
  have HR := hide_ (Room_any hja.b (by decide) (by decide))
  have HB2 := hide_ (HB1.out.trans (hb.mono HB1.out.size))
  clear hj hja ho hr hb
  go_wp2_with (go_at_call 11; refine HR.out.mono ?_; rintro e w3 ⟨rfl, hb3⟩; have HB3 := hide_ (HB2.out.trans (hb3.mono HB2.out.size)); clear hb3)
  go_ret
  exact ⟨by first | rfl | decide, HB3.out⟩
end Go.Proofs.Ytecbpmnolgkllaa
