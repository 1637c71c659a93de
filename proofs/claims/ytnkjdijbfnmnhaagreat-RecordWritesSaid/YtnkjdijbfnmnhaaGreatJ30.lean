/-
  Texts of this claim put together: PutT4, Great, Law05.
-/
import Derived.Test.YtnkjdijbfnmnhaaGreatJ20
import Derived.Test.YtnkjdijbfnmnhaaGreatJ21
import Derived.Test.YtnkjdijbfnmnhaaGreatJ22
/-
  Contract of table's Put, and the document's example.
-/
namespace Go.Proofs.YtnkjdijbfnmnhaaGreat
open Go.RowKit

/-- a contract's bytes, and the error's number -/
def putR (st vs : Int) (l : List RuM) : List UInt8 × Int := if mayT st vs l then (tabBy st vs l, 0) else ([], 10)
/-- what Put leaves -/
def PutsT (r : List UInt8 × Int) (w : World) (e : Ending) (w' : World) : Prop :=
  ∃ A c, e = .returned (.tuple #[.slice A r.1.length c, .int .i64 r.2]) ∧ w'.ownsRow w.heap.size 5 1 (.slice A r.1.length c) r.1.length (bv r.1) ∧ Below w.heap.size w w'

theorem putR_yes {st vs : Int} {l : List RuM} (h : mayT st vs l = true) : putR st vs l = (tabBy st vs l, 0) := by unfold putR; rw [if_pos h]
theorem putR_no {st vs : Int} {l : List RuM} (h : mayT st vs l = false) : putR st vs l = ([], 10) := by unfold putR; rw [h]; rfl
theorem rus_len {w : World} {B : Nat} {st vs : Int} {s : Sl RuM} (hs : rusOk w B s) (h : mayT st vs s.l = true) : ∀ x ∈ s.l, (ruBy x).length ≤ 7000 := by
  intro x hx
  obtain ⟨k, hk, rfl⟩ := List.getElem_of_mem hx
  exact ruBy_len (hs.2.2.2 _ hx) (ruS_of (mayT_rule h (List.getElem?_eq_getElem hk)))
theorem tabBy_len {w : World} {B : Nat} {st vs : Int} {s : Sl RuM} (hs : rusOk w B s) (h : mayT st vs s.l = true) : (tabBy st vs s.l).length ≤ 300000 := by
  have hn := mayT_num h
  have h1 := flat_le (f := ruBy) s.l (rus_len hs h)
  unfold tabBy
  simp only [List.length_append]
  have := natB_len st (by omega)
  have := natB_len vs (by omega)
  have := natB_len s.l.length (by omega)
  omega

theorem putR_example : putR 1 0 [] = ([1, 0, 0], 0) := by
  rw [putR_yes (by decide)]
  unfold tabBy natB
  simp only [List.length_nil, List.flatMap_nil, List.append_nil]
  rw [show ((1 : Int).toNat) = 1 from rfl, show ((0 : Int).toNat) = 0 from rfl, show (((0 : Nat) : Int).toNat) = 0 from rfl, numB_small (by omega), numB_small (by omega)]
  rfl

end Go.Proofs.YtnkjdijbfnmnhaaGreat
/-
  The reference's Great answers, whatever it is asked.
-/
namespace Go.Proofs.YtnkjdijbfnmnhaaGreat
open Go.RowKit

/-- an answer that is yes or no -/
def SomeB (w : World) (e : Ending) (w' : World) : Prop := ∃ b : Bool, e = .returned (.bool b) ∧ Below w.heap.size w w'

end Go.Proofs.YtnkjdijbfnmnhaaGreat
/-
  What the laws of layer 5 have in common: messages in memory; what is known of what an action does.
-/
namespace Go.Proofs.YtnkjdijbfnmnhaaGreat
open Go.RowKit

theorem Sees.ownRow {w : World} {base n c size : Nat} {e : TypeId} {A : Option Addr} {xs : List Value} (h : w.ownsRow base e size (.slice A n c) n xs) : Sees w w.heap.size A xs := fun hn => by
  rcases h.2 with ⟨hv, rfl⟩ | ⟨g, cap, cur, hv, _, hg, _, _, hsz, hx⟩
  · have := h.1
    rw [Nat.zero_mul] at this
    omega
  · injection hv with hA
    subst hA
    have hlt : g < w.heap.size := (Array.getElem?_eq_some_iff.1 hg).1
    refine ⟨_, rfl, hlt, fun j u hu => ?_⟩
    rw [Addr.add_lit, cell_of_row w g _ _ _ _ hg, Nat.zero_add, ← Array.getElem?_toList]
    rw [← hx, List.getElem?_take] at hu
    split at hu
    · exact hu
    · cases hu
theorem Sees.msg {w : World} {B : Nat} {A : Option Addr} {l : List (Int × Int × Int)} {k : Nat} {x : Int × Int × Int} (h : Sees w B A (cv l)) (hk : l[k]? = some x) :
    ∃ b o, A = some ⟨b, o, none⟩ ∧ b < B ∧ w.cell? ⟨b, o + k * 4, none⟩ = some (.int .u64 0) ∧ w.cell? ⟨b, o + k * 4 + 1, none⟩ = some (.int .u8 x.1) ∧ w.cell? ⟨b, o + k * 4 + 2, none⟩ = some (.int .i64 x.2.1) ∧ w.cell? ⟨b, o + k * 4 + 3, none⟩ = some (.int .i64 x.2.2) := by
  obtain ⟨b, o, e, hb, hc⟩ := Sees.at (cs := cellC) (q := 4) (fun _ => rfl) (by omega) h hk
  exact ⟨b, o, e, hb, hc 0 _ rfl, hc 1 _ rfl, hc 2 _ rfl, hc 3 _ rfl⟩

theorem emRun_all {Q : Int × Int × Int → Prop} {l : List EmM} {vars : List Int} {arg : Int} (hq : ∀ (k : Nat) (e : EmM) (x : Int), l[k]? = some e → Q (e.tg, e.ac, x)) : ∀ {j : Nat} {cur : List (Int × Int × Int)}, emRun l vars arg j = some cur → ∀ c ∈ cur, Q c := by
  intro j
  induction j with
  | zero => intro cur h; injection h with h; subst h; simp
  | succ j ih =>
    intro cur h
    change (emRun l vars arg j).bind _ = some cur at h
    cases hp : emRun l vars arg j with
    | none => rw [hp] at h; cases h
    | some c =>
      rw [hp] at h
      simp only [Option.bind_some] at h
      cases hl : l[j]? with
      | none => rw [hl] at h; cases h
      | some s =>
        rw [hl] at h
        simp only at h
        split at h
        · injection h with h
          subst h
          intro y hy
          rcases List.mem_append.1 hy with hy | hy
          · exact ih hp y hy
          · simp at hy
            subst hy
            exact hq j s _ hl
        · cases h

/-- what an action leaves -/
theorem fire_stays (st vs : Int) (l : List RuM) (sa ac pa : Int) (vars : List Int) (arg : Int) :
    (∃ e, e ≠ 0 ∧ fireR st vs l sa ac pa vars arg = (0, [], [], e)) ∨
    (∃ s v c, fireR st vs l sa ac pa vars arg = (s, v, c, 0) ∧ (0 ≤ s ∧ s < st) ∧ ((v.length : Int) = vs ∧ v.length = vars.length) ∧ c.length ≤ 4 ∧ ∀ x ∈ c, x.1 ≤ 15 ∧ 0 ≤ x.2.1 ∧ x.2.1 ≤ 31) := by
  unfold fireR
  by_cases h : fireB st vs l vars = true
  · rw [if_pos h]
    unfold fireB at h
    simp only [Bool.and_eq_true, decide_eq_true_eq] at h
    cases hi : idxO (takX sa ac pa vars arg l) l.length with
    | none => exact .inl ⟨13, by omega, rfl⟩
    | some k =>
      simp only
      cases hk : l[k]? with
      | none => exact .inl ⟨13, by omega, rfl⟩
      | some r =>
        simp only
        obtain ⟨-, hto, -, -, -, hs, he⟩ := ruB_parts (mayT_rule h.2 hk)
        cases ha : setAllR r.se.l vars arg with
        | none => exact .inl ⟨18, by omega, rfl⟩
        | some a =>
          cases hc : emAllR r.em.l vars arg with
          | none => exact .inl ⟨18, by omega, rfl⟩
          | some c =>
            have h1 := setRun_len ha
            have h2 := emRun_len hc
            have h3 := emsB_len he
            refine .inr ⟨r.tt, a, c, rfl, ⟨hto.1, by omega⟩, ⟨by rw [h1]; exact h.1, h1⟩, by omega, fun x hx => ?_⟩
            have := emRun_all (Q := fun c => c.1 ≤ 15 ∧ 0 ≤ c.2.1 ∧ c.2.1 ≤ 31) (fun k e x hk => by
              have := emsB_at he hk
              exact ⟨by simp only; omega, this.2.1.1, this.2.1.2⟩) hc x hx
            exact this
  · rw [if_neg h]
    exact .inl ⟨10, by omega, rfl⟩
end Go.Proofs.YtnkjdijbfnmnhaaGreat
