/-
  Texts of this claim put together: PutT4, Great, Law05.
-/
import Derived.Test.YtkgnondlcaklnaaGreatJ17
import Derived.Test.YtkgnondlcaklnaaGreatJ18
import Derived.Test.YtkgnondlcaklnaaGreatJ19
/-
  Contract of table's Put, and the document's example.
-/
namespace Go.Proofs.YtkgnondlcaklnaaGreat
open Go.RowKit

/-- a contract's bytes, and the error's number -/
def putR (st vs : Int) (l : List RuM) : List UInt8 × Int := if mayT st vs l then (tabBy st vs l, 0) else ([], 10)
/-- what Put leaves -/
def PutsT (r : List UInt8 × Int) (w : World) (e : Ending) (w' : World) : Prop :=
  ∃ A c, e = .returned (.tuple #[.slice A r.1.length c, .int .i64 r.2]) ∧ w'.ownsRow w.heap.size 5 1 (.slice A r.1.length c) r.1.length (bv r.1) ∧ Below w.heap.size w w'

theorem putR_yes {st vs : Int} {l : List RuM} (h : mayT st vs l = true) : putR st vs l = (tabBy st vs l, 0) := by unfold putR; rw [if_pos h]
theorem putR_no {st vs : Int} {l : List RuM} (h : mayT st vs l = false) : putR st vs l = ([], 10) := by unfold putR; rw [h]; rfl
theorem rus_len {w : World} {B : Nat} {st vs : Int} {s : Sl RuM} (hs : rusOk w B s) (h : mayT st vs s.l = true) : ∀ x ∈ s.l, (ruBy x).length ≤ 7000 := by
  intro x hx
  obtain ⟨k, hk, rfl⟩ := List.getElem_of_mem hx
  exact ruBy_len (hs.2.2.2 _ hx) (ruS_of (mayT_rule h (List.getElem?_eq_getElem hk)))
theorem tabBy_len {w : World} {B : Nat} {st vs : Int} {s : Sl RuM} (hs : rusOk w B s) (h : mayT st vs s.l = true) : (tabBy st vs s.l).length ≤ 300000 := by
  have hn := mayT_num h
  have h1 := flat_le (f := ruBy) s.l (rus_len hs h)
  unfold tabBy
  simp only [List.length_append]
  have := natB_len st (by omega)
  have := natB_len vs (by omega)
  have := natB_len s.l.length (by omega)
  omega

theorem putR_example : putR 1 0 [] = ([1, 0, 0], 0) := by
  rw [putR_yes (by decide)]
  unfold tabBy natB
  simp only [List.length_nil, List.flatMap_nil, List.append_nil]
  rw [show ((1 : Int).toNat) = 1 from rfl, show ((0 : Int).toNat) = 0 from rfl, show (((0 : Nat) : Int).toNat) = 0 from rfl, numB_small (by omega), numB_small (by omega)]
  rfl

end Go.Proofs.YtkgnondlcaklnaaGreat
/-
  The reference's Great answers, whatever it is asked.
-/
namespace Go.Proofs.YtkgnondlcaklnaaGreat
open Go.RowKit

/-- an answer that is yes or no -/
def SomeB (w : World) (e : Ending) (w' : World) : Prop := ∃ b : Bool, e = .returned (.bool b) ∧ Below w.heap.size w w'

set_option maxRecDepth 100000 in
set_option maxHeartbeats 1600000 in
theorem Great_any (st vs : Int) (t : Sl RuM) (B : Nat) (w : World) (hs : rusOk w B t) (hB : B ≤ w.heap.size) :
    Calls Tryz.prog 22 #[tabV st vs t] w (SomeB w) := by
  obtain ⟨tA, tc, tl⟩ := t
  obtain ⟨n, hn⟩ : ∃ n, tl.length = n := ⟨_, rfl⟩
  have HN := hide_ hn
  have HS := hide_ hs
  have hnm : n ≤ 9223372036854775807 := by have h1 := hs.1; have h2 := hs.2.1; unfold maxLen at h2; simp only [hn] at h1 h2; omega
  simp only [tabV, Sl.v, hn]
  clear hs hn
  by_cases h40 : 40 < n
  · go_enter Tryz.func22, Tryz.ntmps22
    go_wp2
    go_ret
    exact ⟨true, rfl, (Below.refl _ _).alloc (Nat.le_refl _) _⟩
  go_enter Tryz.func22, Tryz.ntmps22
  go_wp2
  go_loopw [14] (fun i wr => ∃ k : Nat, k ≤ n ∧ i = .int .i64 k ∧ Below (w.heap.size + 1) (w.alloc (.cells #[.int .i64 st, .int .i64 vs, .slice tA n tc] 24)) wr) (fun i _ => n - (intOf i).toNat)
  case atStart => exact ⟨0, Nat.zero_le _, rfl, Below.refl _ _⟩
  case round =>
    obtain ⟨k, hk, rfl, hb⟩ := hrel
    have hzw : w.heap.size < wr.heap.size := by have := hb.size; simp at this; omega
    have hbw : Below w.heap.size w wr := ((Below.refl _ _).alloc (Nat.le_refl _) _).trans (hb.mono (by omega))
    have HX := hide_ (show BoxAt wr w.heap.size #[.int .i64 st, .int .i64 vs, .slice tA n tc] 24 from (hb.block _ (by omega)).trans (BoxAt.new _ _ _))
    have hcx := HX.out.cell
    by_cases hlt : k < n
    · have hs1 := (rus_stable.below HS.out (hbw.mono hB)).2.2.1
      obtain ⟨x, hx⟩ : ∃ x, tl[k]? = some x := ⟨_, List.getElem?_eq_getElem (by rw [HN.out]; exact hlt)⟩
      obtain ⟨tb, ot, rfl, hab, e0, e1, e2, e3, e4, e5, e6⟩ := hs1.ru hx
      have hwz : tb < wr.heap.size := by omega
      have hxo := ru_stable.below (HS.out.2.2.2 x (List.mem_of_getElem? hx)) (hbw.mono hB)
      obtain ⟨fr, xc, xp, tt, ⟨gA, gc, gl⟩, ⟨sA, sc, sl⟩, ⟨eA, ec, el⟩⟩ := x
      simp only at e0 e1 e2 e3 e4 e5 e6
      obtain ⟨gn, hgn⟩ : ∃ n, gl.length = n := ⟨_, rfl⟩
      obtain ⟨sn, hsn⟩ : ∃ n, sl.length = n := ⟨_, rfl⟩
      obtain ⟨ee, hen⟩ : ∃ n, el.length = n := ⟨_, rfl⟩
      rw [hgn] at e4
      rw [hsn] at e5
      rw [hen] at e6
      have HSN := hide_ hsn
      have HEN := hide_ hen
      have HB2 := hide_ (hbw.alloc hbw.size (.cells #[.int .i64 fr, .int .i64 xc, .int .i64 xp, .int .i64 tt, .slice gA gn gc, .slice sA sn sc, .slice eA ee ec] 103))
      have HXO := hide_ hxo
      have HB := hide_ hb
      have gm : gn ≤ 9223372036854775807 := by have h1 := hxo.2.1.1; have h2 := hxo.2.1.2.1; unfold maxLen at h2; simp only [hgn] at h1 h2; omega
      have sm : sn ≤ 9223372036854775807 := by have h1 := hxo.2.2.1.1; have h2 := hxo.2.2.1.2.1; unfold maxLen at h2; simp only [hsn] at h1 h2; omega
      have em : ee ≤ 9223372036854775807 := by have h1 := hxo.2.2.2.1; have h2 := hxo.2.2.2.2.1; unfold maxLen at h2; simp only [hen] at h1 h2; omega
      clear hx hs1 hxo hgn hsn hen hb hbw
      by_cases c1 : 60 < gn
      · have d1 : decide (60 < (gn : Int)) = true := decide_eq_true (by omega)
        go_wp2
        go_ret
        exact ⟨true, rfl, HB2.out⟩
      have d1 : decide (60 < (gn : Int)) = false := decide_eq_false (by omega)
      by_cases c2 : 20 < sn
      · have d2 : decide (20 < (sn : Int)) = true := decide_eq_true (by omega)
        go_wp2
        go_ret
        exact ⟨true, rfl, HB2.out⟩
      have d2 : decide (20 < (sn : Int)) = false := decide_eq_false (by omega)
      by_cases c3 : 20 < ee
      · have d3 : decide (20 < (ee : Int)) = true := decide_eq_true (by omega)
        go_wp2
        go_ret
        exact ⟨true, rfl, HB2.out⟩
      have d3 : decide (20 < (ee : Int)) = false := decide_eq_false (by omega)
      have HRS := hide_ (show Sees (wr.alloc (.cells #[.int .i64 fr, .int .i64 xc, .int .i64 xp, .int .i64 tt, .slice gA gn gc, .slice sA sn sc, .slice eA ee ec] 103)) B sA (sl.flatMap SetM.cs) from HXO.out.2.2.1.2.2.1.below ((Below.refl B wr).alloc (by omega) _))
      have HRE := hide_ (show Sees (wr.alloc (.cells #[.int .i64 fr, .int .i64 xc, .int .i64 xp, .int .i64 tt, .slice gA gn gc, .slice sA sn sc, .slice eA ee ec] 103)) B eA (el.flatMap EmM.cs) from HXO.out.2.2.2.2.2.1.below ((Below.refl B wr).alloc (by omega) _))
      go_wp2
      go_loop [41] (fun i => ∃ j : Nat, j ≤ sn ∧ i = .int .i64 j) (fun i => sn - (intOf i).toNat)
      case atStart => exact ⟨0, Nat.zero_le _, rfl⟩
      case round =>
        obtain ⟨j, hj, rfl⟩ := hrel
        by_cases hlj : j < sn
        · obtain ⟨y, hy⟩ : ∃ y, sl[j]? = some y := ⟨_, List.getElem?_eq_getElem (by rw [HSN.out]; exact hlj)⟩
          have hs2 := HRS.out
          obtain ⟨sb, so, rfl, hsb, f0, f1⟩ := hs2.set hy
          obtain ⟨vr, ⟨vA, vc, vl⟩⟩ := y
          simp only at f0 f1
          have hym : vl.length ≤ 9223372036854775807 := by have h1 := (HXO.out.2.2.1.2.2.2 _ (List.mem_of_getElem? hy)).2.1; have h2 := (HXO.out.2.2.1.2.2.2 _ (List.mem_of_getElem? hy)).2.2.1; unfold maxLen at h2; simp only at h1 h2; omega
          have hswz : sb < wr.heap.size := by omega
          clear hy hs2
          generalize vl.length = vn at f1 hym
          by_cases c4 : 60 < vn
          · go_wp2
            go_ret
            exact ⟨true, rfl, HB2.out⟩
          · go_wp2
            go_round
            case rel => exact ⟨j + 1, by omega, by go_num⟩
            case measure => simp [intOf]; omega
        · obtain rfl : j = sn := by omega
          go_wp2
          go_loop [56] (fun i => ∃ j : Nat, j ≤ ee ∧ i = .int .i64 j) (fun i => ee - (intOf i).toNat)
          case atStart => exact ⟨0, Nat.zero_le _, rfl⟩
          case round =>
            obtain ⟨i, hi, rfl⟩ := hrel
            by_cases hli : i < ee
            · obtain ⟨y, hy⟩ : ∃ y, el[i]? = some y := ⟨_, List.getElem?_eq_getElem (by rw [HEN.out]; exact hli)⟩
              have hs2 := HRE.out
              obtain ⟨sb, so, rfl, hsb, f0, f1, f2⟩ := hs2.em hy
              obtain ⟨tg, xa, ⟨vA, vc, vl⟩⟩ := y
              simp only at f0 f1 f2
              have hym : vl.length ≤ 9223372036854775807 := by have h1 := (HXO.out.2.2.2.2.2.2 _ (List.mem_of_getElem? hy)).2.2.1; have h2 := (HXO.out.2.2.2.2.2.2 _ (List.mem_of_getElem? hy)).2.2.2.1; unfold maxLen at h2; simp only at h1 h2; omega
              have hswz : sb < wr.heap.size := by omega
              clear hy hs2
              generalize vl.length = vn at f2 hym
              by_cases c4 : 60 < vn
              · go_wp2
                go_ret
                exact ⟨true, rfl, HB2.out⟩
              · go_wp2
                go_round
                case rel => exact ⟨i + 1, by omega, by go_num⟩
                case measure => simp [intOf]; omega
            · obtain rfl : i = ee := by omega
              go_wp2
              go_roundw
              case rel => exact ⟨k + 1, by omega, by go_num, HB.out.alloc (by omega) _⟩
              case measure => simp [intOf]; omega
    · obtain rfl : k = n := by omega
      go_wp2
      go_ret
      exact ⟨false, rfl, hbw⟩
end Go.Proofs.YtkgnondlcaklnaaGreat

/-
  What the laws of layer 5 have in common: messages in memory; what is known of what an action does.
-/
namespace Go.Proofs.YtkgnondlcaklnaaGreat
open Go.RowKit

theorem Sees.ownRow {w : World} {base n c size : Nat} {e : TypeId} {A : Option Addr} {xs : List Value} (h : w.ownsRow base e size (.slice A n c) n xs) : Sees w w.heap.size A xs := fun hn => by
  rcases h.2 with ⟨hv, rfl⟩ | ⟨g, cap, cur, hv, _, hg, _, _, hsz, hx⟩
  · have := h.1
    rw [Nat.zero_mul] at this
    omega
  · injection hv with hA
    subst hA
    have hlt : g < w.heap.size := (Array.getElem?_eq_some_iff.1 hg).1
    refine ⟨_, rfl, hlt, fun j u hu => ?_⟩
    rw [Addr.add_lit, cell_of_row w g _ _ _ _ hg, Nat.zero_add, ← Array.getElem?_toList]
    rw [← hx, List.getElem?_take] at hu
    split at hu
    · exact hu
    · cases hu
theorem Sees.msg {w : World} {B : Nat} {A : Option Addr} {l : List (Int × Int × Int)} {k : Nat} {x : Int × Int × Int} (h : Sees w B A (cv l)) (hk : l[k]? = some x) :
    ∃ b o, A = some ⟨b, o, none⟩ ∧ b < B ∧ w.cell? ⟨b, o + k * 4, none⟩ = some (.int .u64 0) ∧ w.cell? ⟨b, o + k * 4 + 1, none⟩ = some (.int .u8 x.1) ∧ w.cell? ⟨b, o + k * 4 + 2, none⟩ = some (.int .i64 x.2.1) ∧ w.cell? ⟨b, o + k * 4 + 3, none⟩ = some (.int .i64 x.2.2) := by
  obtain ⟨b, o, e, hb, hc⟩ := Sees.at (cs := cellC) (q := 4) (fun _ => rfl) (by omega) h hk
  exact ⟨b, o, e, hb, hc 0 _ rfl, hc 1 _ rfl, hc 2 _ rfl, hc 3 _ rfl⟩

theorem emRun_all {Q : Int × Int × Int → Prop} {l : List EmM} {vars : List Int} {arg : Int} (hq : ∀ (k : Nat) (e : EmM) (x : Int), l[k]? = some e → Q (e.tg, e.ac, x)) : ∀ {j : Nat} {cur : List (Int × Int × Int)}, emRun l vars arg j = some cur → ∀ c ∈ cur, Q c := by
  intro j
  induction j with
  | zero => intro cur h; injection h with h; subst h; simp
  | succ j ih =>
    intro cur h
    change (emRun l vars arg j).bind _ = some cur at h
    cases hp : emRun l vars arg j with
    | none => rw [hp] at h; cases h
    | some c =>
      rw [hp] at h
      simp only [Option.bind_some] at h
      cases hl : l[j]? with
      | none => rw [hl] at h; cases h
      | some s =>
        rw [hl] at h
        simp only at h
        split at h
        · injection h with h
          subst h
          intro y hy
          rcases List.mem_append.1 hy with hy | hy
          · exact ih hp y hy
          · simp at hy
            subst hy
            exact hq j s _ hl
        · cases h

/-- what an action leaves -/
theorem fire_stays (st vs : Int) (l : List RuM) (sa ac pa : Int) (vars : List Int) (arg : Int) :
    (∃ e, e ≠ 0 ∧ fireR st vs l sa ac pa vars arg = (0, [], [], e)) ∨
    (∃ s v c, fireR st vs l sa ac pa vars arg = (s, v, c, 0) ∧ (0 ≤ s ∧ s < st) ∧ ((v.length : Int) = vs ∧ v.length = vars.length) ∧ c.length ≤ 4 ∧ ∀ x ∈ c, x.1 ≤ 15 ∧ 0 ≤ x.2.1 ∧ x.2.1 ≤ 31) := by
  unfold fireR
  by_cases h : fireB st vs l vars = true
  · rw [if_pos h]
    unfold fireB at h
    simp only [Bool.and_eq_true, decide_eq_true_eq] at h
    cases hi : idxO (takX sa ac pa vars arg l) l.length with
    | none => exact .inl ⟨13, by omega, rfl⟩
    | some k =>
      simp only
      cases hk : l[k]? with
      | none => exact .inl ⟨13, by omega, rfl⟩
      | some r =>
        simp only
        obtain ⟨-, hto, -, -, -, hs, he⟩ := ruB_parts (mayT_rule h.2 hk)
        cases ha : setAllR r.se.l vars arg with
        | none => exact .inl ⟨18, by omega, rfl⟩
        | some a =>
          cases hc : emAllR r.em.l vars arg with
          | none => exact .inl ⟨18, by omega, rfl⟩
          | some c =>
            have h1 := setRun_len ha
            have h2 := emRun_len hc
            have h3 := emsB_len he
            refine .inr ⟨r.tt, a, c, rfl, ⟨hto.1, by omega⟩, ⟨by rw [h1]; exact h.1, h1⟩, by omega, fun x hx => ?_⟩
            have := emRun_all (Q := fun c => c.1 ≤ 15 ∧ 0 ≤ c.2.1 ∧ c.2.1 ≤ 31) (fun k e x hk => by
              have := emsB_at he hk
              exact ⟨by simp only; omega, this.2.1.1, this.2.1.2⟩) hc x hx
            exact this
  · rw [if_neg h]
    exact .inl ⟨10, by omega, rfl⟩
end Go.Proofs.YtkgnondlcaklnaaGreat
