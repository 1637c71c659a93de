/-
  Texts of this claim put together: Two13, Acts13.
-/
import Derived.Test.YtecbpmnolgkllaaJ49
import Derived.Test.YtecbpmnolgkllaaJ31
import Derived.Test.YtecbpmnolgkllaaJ48
/-
  Two journals beside each other, each on a disk of its own; what they answer.
-/
namespace Go.Proofs.Ytecbpmnolgkllaa
open Go.RowKit

/-- two journals of a call's own, apart from each other -/
structure Two (w : World) (Lc Ld : Lay) (D E : Dk) (jb kb : Nat) (S T : JS) (wr : World) : Prop where
  j : JAt wr Lc D jb S
  k : JAt wr Ld E kb T
  ap : ∀ g, (Lc.has g ∨ g = jb) → ¬ (Ld.has g ∨ g = kb)
  b : Below w.heap.size w wr
  hc : ∀ g, (Lc.has g ∨ g = jb) → w.heap.size ≤ g
  hd : ∀ g, (Ld.has g ∨ g = kb) → w.heap.size ≤ g
/-- by the blocks that are named -/
def TwoS (w : World) (n c bc bd jb kb : Nat) (S T : JS) (wr : World) : Prop :=
  ∃ Lc Ld D E, Lc.b = bc ∧ Ld.b = bd ∧ D.n = n ∧ D.c = c ∧ E.n = n ∧ E.c = c ∧ Two w Lc Ld D E jb kb S T wr

section
variable {w wr w' : World} {Lc Ld : Lay} {D E : Dk} {n c bc bd jb kb : Nat} {S T S' : JS}
theorem JAt.lt (h : JAt wr Lc D jb S) {g : Nat} (hg : Lc.has g ∨ g = jb) : g < wr.heap.size := by
  rcases hg with hg | rfl
  · exact h.b.d.lt hg
  · exact h.b.x.lt
theorem JAt.beside {P : Nat → Prop} (h : JAt wr Lc D jb S) (hc : Chg P wr w') (hs : ∀ g, (Lc.has g ∨ g = jb) → ¬ P g) : JAt w' Lc D jb S :=
  ⟨⟨h.b.d.beside hc fun g hg => hs g (.inl hg), (hc.block _ h.b.x.lt (hs _ (.inr rfl))).trans h.b.x, h.b.h⟩, h.f⟩
theorem TwoS.below (h : TwoS w n c bc bd jb kb S T wr) (hb : Below wr.heap.size wr w') : TwoS w n c bc bd jb kb S T w' := by
  obtain ⟨Lc, Ld, D, E, e1, e2, e3, e4, e5, e6, h⟩ := h
  exact ⟨Lc, Ld, D, E, e1, e2, e3, e4, e5, e6, h.j.below hb, h.k.below hb, h.ap, h.b.trans (hb.mono h.b.size), h.hc, h.hd⟩
theorem TwoS.turn (h : TwoS w n c bc bd jb kb S T wr) : TwoS w n c bd bc kb jb T S wr := by
  obtain ⟨Lc, Ld, D, E, e1, e2, e3, e4, e5, e6, h⟩ := h
  exact ⟨Ld, Lc, E, D, e2, e1, e5, e6, e3, e4, h.k, h.j, fun g h1 h2 => h.ap g h2 h1, h.b, h.hd, h.hc⟩
theorem TwoS.b (h : TwoS w n c bc bd jb kb S T wr) : Below w.heap.size w wr := by
  obtain ⟨Lc, Ld, D, E, e1, e2, e3, e4, e5, e6, h⟩ := h
  exact h.b
theorem Two.left (h : Two w Lc Ld D E jb kb S T wr) (ht : JTurn wr Lc D jb S' w') : ∃ L' D', L'.b = Lc.b ∧ D'.n = D.n ∧ D'.c = D.c ∧ Two w L' Ld D' E jb kb S' T w' := by
  obtain ⟨D', en, ec, hf, L', eb, hj, hc, hs⟩ := ht
  refine ⟨L', D', eb, en, ec, ⟨by rw [en]; exact hj, hf⟩, h.k.beside hc (fun g hg hg2 => h.ap g hg2 hg), fun g h1 h2 => ?_, h.b.trans (hc.below h.b.size h.hc), fun g hg => ?_, h.hd⟩
  · rcases h1 with h1 | h1
    · rcases hs g h1 with e | e
      · exact h.ap g (.inl e) h2
      · have := h.k.lt h2
        omega
    · exact h.ap g (.inr h1) h2
  · rcases hg with hg | hg
    · rcases hs g hg with e | e
      · exact h.hc g (.inl e)
      · exact Nat.le_trans h.b.size e
    · exact h.hc g (.inr hg)

/-- what an act is answered, and what it leaves -/
def compE (S : JS) (n c : Nat) (l : List (List UInt8)) : Nat := if longI l = true then 4 else if areaN c < usedN (S.gen + 1) n 1 l then 7 else 0
def compS (S : JS) (n c : Nat) (l : List (List UInt8)) : JS := if longI l = true then S else if areaN c < usedN (S.gen + 1) n 1 l then S else ⟨S.m + 1, S.gen + 1, l⟩
def takeN13 (S : JS) (n : Nat) (r : List UInt8) : Nat := if 2048 < r.length then 0 else recN S.gen n (S.recs.length + 1) r
def appE (S : JS) (n c : Nat) (r : List UInt8) : Nat := if 2048 < r.length then 4 else if areaN c < S.used n + takeN13 S n r then 7 else 0
def appS (S : JS) (n c : Nat) (r : List UInt8) : JS := if 2048 < r.length then S else if areaN c < S.used n + takeN13 S n r then S else ⟨S.m + 1, S.gen, S.recs ++ [r]⟩
theorem compS_small (S : JS) (n c : Nat) (l : List (List UInt8)) : (compS S n c l).m ≤ S.m + 1 ∧ (compS S n c l).gen ≤ S.gen + 1 := by
  unfold compS
  split
  · omega
  · split
    · omega
    · simp
theorem appS_small (S : JS) (n c : Nat) (r : List UInt8) : (appS S n c r).m ≤ S.m + 1 ∧ (appS S n c r).gen ≤ S.gen + 1 := by
  unfold appS
  split
  · omega
  · split
    · omega
    · simp
/-- what is left behind an append is as was told -/
theorem appS_room (S : JS) (n c : Nat) (r : List UInt8) : (appE S n c r = 0 → (appS S n c r).used n = S.used n + takeN13 S n r ∧ S.used n + takeN13 S n r ≤ areaN c) ∧ (appE S n c r ≠ 0 → appS S n c r = S) := by
  unfold appE appS
  by_cases h1 : 2048 < r.length
  · simp [h1]
  · by_cases h2 : areaN c < S.used n + takeN13 S n r
    · simp [h1, h2]
    · simp only [h1, h2, if_false]
      refine ⟨fun _ => ⟨?_, by omega⟩, fun e => absurd rfl e⟩
      show usedN S.gen n 1 (S.recs ++ [r]) = usedN S.gen n 1 S.recs + takeN13 S n r
      rw [usedN_app, Nat.add_comm 1, takeN13, if_neg h1]
      rfl

theorem TwoS.compact (h : TwoS w n c bc bd jb kb S T wr) (hm : S.m + 1 ≤ 1000) (hg : S.gen + 1 ≤ 1000) {l : List (List UInt8)} {A : Option Addr} {b o z cp : Nat} (hn : l.length = z) (hz : z ≤ 1000) (hl : LRecs wr wr.heap.size A b o l) :
    Calls Try.prog 10 #[.pointer (some ⟨jb, 0, none⟩), .slice A z cp] wr fun e w' => e = .returned (.int .i64 (compE S n c l : Nat)) ∧ TwoS w n c bc bd jb kb (compS S n c l) T w' := by
  have h0 := h
  obtain ⟨Lc, Ld, D, E, e1, e2, e3, e4, e5, e6, h⟩ := h
  by_cases hlong : longI l = true
  · refine (Compact_long (c := cp) h.j.b hn (by omega) hl hlong).mono ?_
    rintro e w' ⟨rfl, hb⟩
    rw [compE, compS, if_pos hlong, if_pos hlong]
    exact ⟨rfl, h0.below hb⟩
  · have hlong' : longI l = false := by simpa using hlong
    refine (Compact_any (c := cp) h.j.b h.j.f hm hg hn hz hl hlong').mono ?_
    rintro e w' (⟨hf, rfl, hb⟩ | ⟨hf, rfl, ht⟩)
    · rw [e3, e4] at hf
      rw [compE, compS, if_neg hlong, if_neg hlong, if_pos hf, if_pos hf]
      exact ⟨rfl, h0.below hb⟩
    · rw [e3, e4] at hf
      rw [compE, compS, if_neg hlong, if_neg hlong, if_neg (by omega), if_neg (by omega)]
      obtain ⟨L', D', b1, b2, b3, h2⟩ := h.left ht
      exact ⟨rfl, L', Ld, D', E, b1.trans e1, e2, b2.trans e3, b3.trans e4, e5, e6, h2⟩

theorem TwoS.append (h : TwoS w n c bc bd jb kb S T wr) (hm : S.m + 1 ≤ 1000) {r : List UInt8} {A : Option Addr} {z cp : Nat} (hr : r.length = z) (hs : Sees wr wr.heap.size A (bv r)) :
    Calls Try.prog 13 #[.pointer (some ⟨jb, 0, none⟩), .slice A z cp] wr fun e w' => e = .returned (.int .i64 (appE S n c r : Nat)) ∧ TwoS w n c bc bd jb kb (appS S n c r) T w' := by
  have h0 := h
  obtain ⟨Lc, Ld, D, E, e1, e2, e3, e4, e5, e6, h⟩ := h
  have hn1 := h.j.b.d.ok.n1
  have hmany := h.j.f.many (by omega) h.j.b.d.ok.c2
  have hsm := h.j.f.small
  by_cases hlong : 2048 < r.length
  · refine (Append_long h.j.b A z cp (by omega)).mono ?_
    rintro e w' ⟨rfl, hb⟩
    rw [appE, appS, if_pos hlong, if_pos hlong]
    exact ⟨rfl, h0.below hb⟩
  · have et : takeN13 S n r = recN S.gen D.n (S.recs.length + 1) r := by rw [takeN13, if_neg hlong, e3]
    by_cases hf : areaN c < S.used n + takeN13 S n r
    · refine (Append_full h.j.b h.j.f.c6 h.j.f.fit (by omega) (by omega) r A z cp hr (by omega) hs (by rw [← et, e3, e4]; exact hf)).mono ?_
      rintro e w' ⟨rfl, hb⟩
      rw [appE, appS, if_neg hlong, if_neg hlong, if_pos hf, if_pos hf]
      exact ⟨rfl, h0.below hb⟩
    · refine (Append_fits h.j.b h.j.f rfl hm r A z cp hr (by omega) hs (by rw [← et, e3, e4]; omega)).mono ?_
      rintro e w' ⟨rfl, ht⟩
      rw [appE, appS, if_neg hlong, if_neg hlong, if_neg hf, if_neg hf]
      obtain ⟨L', D', b1, b2, b3, h2⟩ := h.left ht
      exact ⟨rfl, L', Ld, D', E, b1.trans e1, e2, b2.trans e3, b3.trans e4, e5, e6, h2⟩

theorem TwoS.room (h : TwoS w n c bc bd jb kb S T wr) : S.used n ≤ areaN c ∧
    Calls Try.prog 11 #[.pointer (some ⟨jb, 0, none⟩)] wr fun e w' => e = .returned (.int .i64 ((areaN c - S.used n : Nat) : Int)) ∧ Below wr.heap.size wr w' := by
  obtain ⟨Lc, Ld, D, E, e1, e2, e3, e4, e5, e6, h⟩ := h
  have h1 := h.j.f.fit
  have := Room_any h.j.b h.j.f.c6 h1
  rw [e3, e4] at this h1
  exact ⟨h1, this⟩

theorem TwoS.takes (h : TwoS w n c bc bd jb kb S T wr) {r : List UInt8} {A : Option Addr} {z cp : Nat} (hr : r.length = z) (hs : Sees wr wr.heap.size A (bv r)) :
    Calls Try.prog 12 #[.pointer (some ⟨jb, 0, none⟩), .slice A z cp] wr fun e w' => e = .returned (.int .i64 (takeN13 S n r : Nat)) ∧ Below wr.heap.size wr w' := by
  obtain ⟨Lc, Ld, D, E, e1, e2, e3, e4, e5, e6, h⟩ := h
  have hmany := h.j.f.many (by have := h.j.b.d.ok.n1; omega) h.j.b.d.ok.c2
  have hsm := h.j.f.small
  by_cases hlong : 2048 < r.length
  · rw [takeN13, if_pos hlong]
    exact Takes_long h.j.b A z cp (by omega)
  · rw [takeN13, if_neg hlong, ← e3]
    exact Takes_any h.j.b (by omega) (by omega) r A z cp hr (by omega) hs

/-- rows that a call has made, as they are read -/
theorem RowsOf.recs {W : World} {rs : List (List UInt8)} {vs : List Value} {A : Option Addr} {k c1 B : Nat} (hk : rs.length = k) (ho : W.ownsRow B 38 1 (.slice A k c1) k vs) (hr : RowsOf W rs vs) : ∃ b o, LRecs W W.heap.size A b o rs := by
  by_cases h0 : 0 < k
  · have hs := Sees.own ho
    have hlen : 0 < vs.length := by rw [hr.1]; omega
    obtain ⟨b, o, e, hb, hc⟩ := hs.flat hlen
    refine ⟨b, o, ⟨fun _ => ⟨e, hb⟩, fun i r hi => ?_⟩⟩
    obtain ⟨A1, c2, h1, h2⟩ := hr.2 i r hi
    exact ⟨A1, c2, hc i _ h1, Sees.own h2⟩
  · exact ⟨0, 0, ⟨fun h => by omega, fun i r e => by
      have := (List.getElem?_eq_some_iff.1 e).1
      omega⟩⟩

/-- a journal is opened anew -/
theorem TwoS.open (h : TwoS w n c bc bd jb kb S T wr) :
    Calls Try.prog 9 #[.pointer (some ⟨bc, 0, none⟩)] wr fun e w' => ∃ jb' A b o c1, e = .returned (.tuple #[.pointer (some ⟨jb', 0, none⟩), .slice A S.recs.length c1, .int .i64 0]) ∧ TwoS w n c bc bd jb' kb S T w' ∧ TwoS w n c bc bd jb kb S T w' ∧ LRecs w' w'.heap.size A b o S.recs ∧ Below wr.heap.size wr w' := by
  have h0 := h
  obtain ⟨Lc, Ld, D, E, e1, e2, e3, e4, e5, e6, h⟩ := h
  subst e1
  refine (Open_any h.j.b.d h.j.f).mono ?_
  rintro e w' ⟨jb', A, c1, vs, rfl, hj, hja, ho, hr, hb⟩
  obtain ⟨b, o, hl⟩ := hr.recs rfl ho
  refine ⟨jb', A, b, o, c1, rfl, ⟨Lc, Ld, D, E, rfl, e2, e3, e4, e5, e6, hja, h.k.below hb, fun g h1 h2 => ?_, h.b.trans (hb.mono h.b.size), fun g hg => ?_, h.hd⟩, h0.below hb, hl, hb⟩
  · rcases h1 with h1 | h1
    · exact h.ap g (.inl h1) h2
    · have := h.k.lt h2
      omega
  · rcases hg with hg | hg
    · exact h.hc g (.inl hg)
    · have := h.b.size
      omega
end
end Go.Proofs.Ytecbpmnolgkllaa

/-
  A row of a journal's acts that comes in.
-/
namespace Go.Proofs.Ytecbpmnolgkllaa
open Go.RowKit

def brC (s : Sl UInt8) : List Value := [s.v]
/-- rows of bytes as they come in -/
def rowsOk (w : World) (B : Nat) (s : Sl (Sl UInt8)) : Prop := Sl.ok brC bytesOk w B s
theorem rows_stable : Stable rowsOk := Sl.stable bytes_stable
/-- an act as it comes in -/
structure ActM where
  co : Bool
  rs : Sl (Sl UInt8)
def ActM.cs (a : ActM) : List Value := [.bool a.co, a.rs.v]
def ActM.ok (w : World) (B : Nat) (a : ActM) : Prop := rowsOk w B a.rs
theorem act_stable : Stable ActM.ok := fun w w' B B' x h hk hB => rows_stable w w' B B' x.rs h hk hB
def actsOk (w : World) (B : Nat) (s : Sl ActM) : Prop := Sl.ok ActM.cs ActM.ok w B s
theorem acts_stable : Stable actsOk := Sl.stable act_stable
def rowsL (l : List (Sl UInt8)) : List (List UInt8) := l.map (·.l)
theorem rowsL_get {l : List (Sl UInt8)} {i : Nat} {r : List UInt8} (h : (rowsL l)[i]? = some r) : ∃ s, l[i]? = some s ∧ s.l = r := by
  unfold rowsL at h
  rw [List.getElem?_map] at h
  obtain ⟨s, h1, h2⟩ := Option.map_eq_some_iff.1 h
  exact ⟨s, h1, h2⟩
theorem rowsL_len (l : List (Sl UInt8)) : (rowsL l).length = l.length := by simp [rowsL]
theorem Sees.act {w : World} {B : Nat} {A : Option Addr} {l : List ActM} {k : Nat} {x : ActM} (h : Sees w B A (l.flatMap ActM.cs)) (hk : l[k]? = some x) :
    ∃ b o, A = some ⟨b, o, none⟩ ∧ b < B ∧ w.cell? ⟨b, o + k * 2, none⟩ = some (.bool x.co) ∧ w.cell? ⟨b, o + k * 2 + 1, none⟩ = some (.slice x.rs.A x.rs.l.length x.rs.c) := by
  obtain ⟨b, o, e, hb, hc⟩ := h.at (q := 2) (fun _ => rfl) (by omega) hk
  exact ⟨b, o, e, hb, hc 0 _ rfl, hc 1 _ rfl⟩
theorem br_flat (l : List (Sl UInt8)) : l.flatMap brC = l.map Sl.v := by
  induction l with
  | nil => rfl
  | cons s l ih => rw [List.flatMap_cons, ih]; rfl
/-- as the journal's contracts read them -/
theorem rowsOk.recs {w : World} {B : Nat} {s : Sl (Sl UInt8)} (h : rowsOk w B s) : ∃ b o, LRecs w B s.A b o (rowsL s.l) := by
  obtain ⟨_, _, hs, hok⟩ := h
  rw [br_flat] at hs
  by_cases h0 : 0 < s.l.length
  · obtain ⟨b, o, e, hb, hc⟩ := hs.flat (by simpa using h0)
    refine ⟨b, o, ⟨fun _ => ⟨e, hb⟩, fun i r hi => ?_⟩⟩
    obtain ⟨x, hx, rfl⟩ := rowsL_get hi
    exact ⟨x.A, x.c, hc i _ (by rw [List.getElem?_map, hx]; rfl), (hok x (List.mem_of_getElem? hx)).1⟩
  · exact ⟨0, 0, ⟨fun h => by rw [rowsL_len] at h; omega, fun i r e => by
      have := (List.getElem?_eq_some_iff.1 e).1
      rw [rowsL_len] at this
      omega⟩⟩
theorem LRecs.more {w : World} {B B' b o : Nat} {A : Option Addr} {l : List (List UInt8)} (h : LRecs w B A b o l) (hB : B ≤ B') : LRecs w B' A b o l :=
  ⟨fun e => ⟨(h.a e).1, Nat.lt_of_lt_of_le (h.a e).2 hB⟩, fun i r e => by
    obtain ⟨A1, c1, h1, h2⟩ := h.r i r e
    exact ⟨A1, c1, h1, h2.more hB⟩⟩

section
open Go.ChangeShapes Go.WideShapes Go.ChangeAt
variable {H : Type} {enc : TypeId × Value → H} {w : World} {base : Nat} {spare : Nat → Bool} {held : Bool}
set_option maxRecDepth 100000 in
theorem open_rowsc {n : Nat} {v : Value} {y : DataW H × List MemPlace} (h : DataW.trod enc Try.prog w base spare held n 30 [v] = some y) : ∃ s : Sl (Sl UInt8), v = s.v ∧ rowsOk w w.heap.size s := by
  obtain ⟨s, hv, h1, h2, h3, h4⟩ := open_sl brC (bytesOk w w.heap.size) (q := 1) (by omega) Try.underlying30 (by kernel_rfl) (fun _ => rfl) (fun n xs y hl h => by
    match xs, hl with
    | [c0], _ =>
      obtain ⟨s, rfl, hs⟩ := open_bytesc h
      exact ⟨s, rfl, hs⟩) h
  exact ⟨s, hv, h1, h2, h3, h4⟩
set_option maxRecDepth 100000 in
theorem el_act {n : Nat} {xs : List Value} {y : DataW H × List MemPlace} (hl : xs.length = 2) (h : DataW.trod enc Try.prog w base spare held n 34 xs = some y) : ∃ t, xs = ActM.cs t ∧ ActM.ok w w.heap.size t := by
  match xs, hl with
  | [c0, c1], _ =>
    obtain ⟨_, _, h0⟩ := field_at Try.underlying34 h 0 rfl rfl rfl (by kernel_rfl) rfl
    obtain ⟨_, _, h1⟩ := field_at Try.underlying34 h 1 rfl rfl rfl (by kernel_rfl) rfl
    obtain ⟨t, rfl⟩ := open_boolc h0
    obtain ⟨s, rfl, hs⟩ := open_rowsc h1
    exact ⟨⟨t, s⟩, rfl, hs⟩
set_option maxRecDepth 100000 in
theorem open_acts {r : Reach} {b0 : Nat} {v : Value} {d : DataW H} {p : List MemPlace} (hv : Value.okWide Try.prog w r b0 22 v) (h : DataW.Trod enc Try.prog w base spare held 22 v d p) :
    ∃ s : Sl ActM, v = s.v ∧ actsOk w w.heap.size s := by
  obtain ⟨A, n, c, rfl⟩ := okWide_slice Try.underlying22 hv
  obtain ⟨fuel, hf⟩ := h
  obtain ⟨s, hv, h1, h2, h3, h4⟩ := open_sl ActM.cs (ActM.ok w w.heap.size) (q := 2) (by omega) Try.underlying22 (by kernel_rfl) (fun _ => rfl) (fun _ _ _ hl h => el_act hl h) (by simpa [Value.cells] using hf)
  exact ⟨s, hv, h1, h2, h3, h4⟩
end
end Go.Proofs.Ytecbpmnolgkllaa
