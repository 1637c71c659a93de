/-
  Texts of this claim put together: Sec1.
-/
import Derived.Test.YtnkjdijbfnmnhaaGreatJ09
import Derived.WalkSpells
import Derived.Outline

namespace Go.Proofs.YtnkjdijbfnmnhaaGreat
open Go.RowKit

section
variable {w : World} {L : Lay} {D : Dk}
theorem DiskAt.c0 (h:DiskAt w L D):w.cell? ⟨L.b,0,none⟩=some (.int .i64 (D.n:Int)):=h.cell 0
theorem DiskAt.c1 (h:DiskAt w L D):w.cell? ⟨L.b,1,none⟩=some (.int .i64 (D.c:Int)):=h.cell 1
theorem DiskAt.c2 (h:DiskAt w L D):w.cell? ⟨L.b,2,none⟩=some (.map (some L.m)):=h.cell 2
theorem DiskAt.c3 (h:DiskAt w L D):w.cell? ⟨L.b,3,none⟩=some (.slice L.A D.waits.length L.cp):=h.cell 3
theorem DiskAt.c4 (h:DiskAt w L D):w.cell? ⟨L.b,4,none⟩=some (.bool D.on):=h.cell 4
theorem DiskAt.c5 (h:DiskAt w L D):w.cell? ⟨L.b,5,none⟩=some (.int .u64 D.falls):=h.cell 5
theorem DiskAt.c6 (h:DiskAt w L D):w.cell? ⟨L.b,6,none⟩=some (.bool D.hf):=h.cell 6
theorem DiskAt.c7 (h:DiskAt w L D):w.cell? ⟨L.b,7,none⟩=some (.int .i64 D.left):=h.cell 7
end

section
variable {w : World} {L : Lay} {D : Dk}
theorem eK (h:DiskAt w L D):Calls Tryz.prog 79 #[.pointer (some ⟨L.b,0,none⟩)] w fun e w'=>e = .returned (.int .i64 (D.n:Int))/\w=w':=by
 have c0:=h.c0
 clear h
 go_enter Tryz.func79,Tryz.ntmps79
 go_wp2
 go_ret
 exact ⟨rfl,rfl⟩

theorem j5 (h:DiskAt w L D):Calls Tryz.prog 80 #[.pointer (some ⟨L.b,0,none⟩)] w fun e w'=>e = .returned (.int .i64 (D.c:Int))/\w=w':=by
 have c0:=h.c1
 clear h
 go_enter Tryz.func80,Tryz.ntmps80
 go_wp2
 go_ret
 exact ⟨rfl,rfl⟩

theorem rt (h:DiskAt w L D):Calls Tryz.prog 140 #[.pointer (some ⟨L.b,0,none⟩)] w fun e w'=>e = .returned (.bool D.on)/\w=w':=by
 have c0:=h.c4
 clear h
 go_enter Tryz.func140,Tryz.ntmps140
 go_wp2
 go_ret
 exact ⟨rfl,rfl⟩

theorem sU (h:DiskAt w L D):Calls Tryz.prog 279 #[.pointer (some ⟨L.b,0,none⟩)] w fun e w'=>e = .returned (.bool true)/\w=w':=by
 have H:=aa h
 have hc:0<D.c:=h.ok.c1
 clear h
 go_enter Tryz.func279,Tryz.ntmps279
 go_wp2_with (refine (j5 H.out).mono ?_;rintro e w1 ⟨rfl,rfl⟩)
 go_ret
 exact ⟨rfl,rfl⟩

theorem eM (h:DiskAt w L D):Calls Tryz.prog 218 #[.pointer (some ⟨L.b,0,none⟩)] w fun e w'=>e = .returned (.int .i64 (if D.on=true then 0 else 8))/\w=w':=by
 have H:=aa h
 have c4:=h.c4
 clear h
 obtain ⟨t,ht⟩:∃t,D.on=t:=⟨_,rfl⟩
 rw [ht] at c4 ⊢
 clear ht
 cases t <;> simp only [if_true,if_false,Bool.false_eq_true]
 all_goals
  go_enter Tryz.func218,Tryz.ntmps218
  go_wp2_with (refine (sU H.out).mono ?_;rintro e w1 ⟨rfl,rfl⟩)
  go_ret
  exact ⟨rfl,rfl⟩

theorem j6 (i m:Int) (w:World):Calls Tryz.prog 219 #[.int .i64 i, .int .i64 m] w fun e w'=>e = .returned (.bool (decide (0<=i/\i<m)))/\w=w':=by
 by_cases h0:0<=i
 ·by_cases h1:i<m
  ·have e:decide (0<=i/\i<m)=true:=decide_eq_true ⟨h0,h1⟩
   rw [e]
   clear e
   go_enter Tryz.func219,Tryz.ntmps219
   go_wp2
   go_ret
   exact ⟨rfl,rfl⟩
  ·have e:decide (0<=i/\i<m)=false:=decide_eq_false (by omega)
   rw [e]
   clear e
   go_enter Tryz.func219,Tryz.ntmps219
   go_wp2
   go_ret
   exact ⟨rfl,rfl⟩
 ·have e:decide (0<=i/\i<m)=false:=decide_eq_false (by omega)
  rw [e]
  clear e
  go_enter Tryz.func219,Tryz.ntmps219
  go_wp2
  go_ret
  exact ⟨rfl,rfl⟩

theorem dC (h:DiskAt w L D) (i:Int):Calls Tryz.prog 148 #[.pointer (some ⟨L.b,0,none⟩), .int .i64 i] w fun e w'=>e = .returned (.int .i64 (cF D i))/\w=w':=by
 have H:=aa h
 have c1:=h.c1
 clear h
 unfold cF
 by_cases ht:D.on=true
 ·rw [if_pos ht]
  have HA:=aa (show Calls Tryz.prog 218 #[.pointer (some ⟨L.b,0,none⟩)] w fun e w'=>e = .returned (.int .i64 0)/\w=w' from by
   have:=eM H.out
   rwa [if_pos ht] at this)
  clear ht
  by_cases hi:0<=i/\i<D.c
  ·rw [if_pos hi]
   have HI:=aa (show Calls Tryz.prog 219 #[.int .i64 i, .int .i64 (D.c:Int)] w fun e w'=>e = .returned (.bool true)/\w=w' from by
    have:=j6 i D.c w
    rwa [decide_eq_true hi] at this)
   clear hi
   go_enter Tryz.func148,Tryz.ntmps148
   go_wp2_with (first|(go_at_call 218;refine HA.out.mono ?_;rintro e w1 ⟨rfl,rfl⟩)|(go_at_call 219;refine HI.out.mono ?_;rintro e w1 ⟨rfl,rfl⟩))
   go_ret
   exact ⟨rfl,rfl⟩
  ·rw [if_neg hi]
   have HI:=aa (show Calls Tryz.prog 219 #[.int .i64 i, .int .i64 (D.c:Int)] w fun e w'=>e = .returned (.bool false)/\w=w' from by
    have:=j6 i D.c w
    rwa [decide_eq_false hi] at this)
   clear hi
   go_enter Tryz.func148,Tryz.ntmps148
   go_wp2_with (first|(go_at_call 218;refine HA.out.mono ?_;rintro e w1 ⟨rfl,rfl⟩)|(go_at_call 219;refine HI.out.mono ?_;rintro e w1 ⟨rfl,rfl⟩))
   go_ret
   exact ⟨rfl,rfl⟩
 ·rw [if_neg ht]
  have HA:=aa (show Calls Tryz.prog 218 #[.pointer (some ⟨L.b,0,none⟩)] w fun e w'=>e = .returned (.int .i64 8)/\w=w' from by
   have:=eM H.out
   rwa [if_neg ht] at this)
  clear ht
  go_enter Tryz.func148,Tryz.ntmps148
  go_wp2_with (go_at_call 218;refine HA.out.mono ?_;rintro e w1 ⟨rfl,rfl⟩)
  go_ret
  exact ⟨rfl,rfl⟩
end
end Go.Proofs.YtnkjdijbfnmnhaaGreat
