/-
  Texts of this claim put together: Ring1.
-/
import Derived.Test.YtnkjdijbfnmnhaaGreatJ04
import Derived.Test.YtnkjdijbfnmnhaaGreatJ06
import Derived.Test.YtnkjdijbfnmnhaaGreatJ07
import Derived.Test.YtnkjdijbfnmnhaaGreatJ00
import Derived.Deep.RegionHeld
import Derived.Deep.QuietTactic
import Derived.BigQuiet
import Derived.Deep.DeepCutAuto
import Derived.Sort.Grow

namespace Go.Proofs.YtnkjdijbfnmnhaaGreat
open Go.RowKit

theorem cO {a b:Bool} (h:a=b):Ending.returned (.bool a) = .returned (.bool b):=by rw [h]
theorem dN9 {B:Nat} {w w':World} (h:Below B w w') (n:Nat):Below B w (w'.drewN n):=h.trans ⟨rfl,rfl,rfl,Nat.le_refl _,fun _ _=>rfl⟩
theorem E8 (n:UInt8):(n.toNat:Int)<=255:=by have:=n.toNat_lt;omega

def cellsP (p:Pt):List Value:=[.int .u64 (p.1:Nat), .int .u8 (p.2.toNat:Int)]
def pvP (l:List Pt):List Value:=l.flatMap cellsP
theorem sW (l:List Pt):(pvP l).length=l.length * 2:=by
 induction l with
 | nil=>rfl
 | cons p l ih =>
  show (cellsP p++pvP l).length=_
  rw [List.length_append,ih]
  simp [cellsP]
  omega
theorem CA (l m:List Pt):pvP (l++m)=pvP l++pvP m:=by simp [pvP]
theorem EP (l:List Pt):∀u∈pvP l,u.oneCell'=true:=by
 intro u hu
 simp only [pvP,cellsP,List.mem_flatMap,List.mem_cons,List.not_mem_nil,or_false] at hu
 obtain ⟨t,_,rfl|rfl⟩:=hu <;> rfl
theorem Bi:∀(l:List Pt) (k:Nat) (h:k<l.length),(pvP l)[k * 2]?=some (.int .u64 (l[k].1:Nat))/\(pvP l)[k * 2+1]?=some (.int .u8 (l[k].2.toNat:Int)):=by
 intro l
 induction l with
 | nil=>intro k h;simp at h
 | cons t l ih =>
  intro k h
  show (cellsP t++pvP l)[k * 2]?=_/\(cellsP t++pvP l)[k * 2+1]?=_
  match k,h with
  | 0,_=>exact ⟨rfl,rfl⟩
  | k+1,h =>
   have:=ih k (by simpa using h)
   rw [show (k+1) * 2=k * 2+1+1 by omega]
   simpa [cellsP] using this
theorem Sees.pt {w:World} {B:Nat} {A:Option Addr} {l:List Pt} {k:Nat} (h:Sees w B A (pvP l)) (hk:k<l.length) :
  ∃b o,A=some ⟨b,o,none⟩/\b<B/\w.cell? ⟨b,o+k * 2,none⟩=some (.int .u64 (l[k].1:Nat))/\w.cell? ⟨b,o+k * 2+1,none⟩=some (.int .u8 (l[k].2.toNat:Int)):=by
 obtain ⟨b,o,e,hb,hc⟩:=h.flat (by rw [sW];omega)
 have:=Bi l k hk
 exact ⟨b,o,e,hb,hc _ _ this.1,hc _ _ this.2⟩
theorem Sees.u8 {w:World} {B:Nat} {A:Option Addr} {l:List UInt8} {k:Nat} (h:Sees w B A (bv l)) (hk:k<l.length) :
  ∃b o,A=some ⟨b,o,none⟩/\b<B/\w.cell? ⟨b,o+k,none⟩=some (.int .u8 (l[k].toNat:Int)):=by
 obtain ⟨b,o,e,hb,hc⟩:=h.flat (by rw [bv_length];omega)
 exact ⟨b,o,e,hb,hc _ _ (by rw [bv_getElem?,List.getElem?_eq_getElem hk];rfl)⟩

def badN (l:List UInt8) (k:Nat):Bool:=decide (64<=(l.getD k 0).toNat) || (decide (0<k) && decide ((l.getD k 0).toNat<=(l.getD (k - 1) 0).toNat))
def mayN (l:List UInt8):Bool:=(List.range l.length).all fun k => !badN l k
theorem ry {l:List UInt8} {k:Nat} (hk:k<l.length) (h:badN l k=true):mayN l=false:=by
 rw [mayN,List.all_eq_false]
 exact ⟨k,List.mem_range.2 hk,by simp [h]⟩
theorem og {l:List UInt8} (h:∀k,k<l.length->badN l k=false):mayN l=true:=by
 rw [mayN,List.all_eq_true]
 intro k hk
 simp [h k (List.mem_range.1 hk)]
theorem ka {l:List UInt8} (hk:0<l.length):badN l 0=decide (64<=l[0].toNat):=by
 unfold badN
 simp [List.getD_eq_getElem?_getD,List.getElem?_eq_getElem hk]
theorem gM {l:List UInt8} {k:Nat} (hk:k+1<l.length):badN l (k+1)=(decide (64<=l[k+1].toNat) || decide (l[k+1].toNat<=l[k].toNat)):=by
 unfold badN
 simp only [List.getD_eq_getElem?_getD,List.getElem?_eq_getElem hk,Nat.add_sub_cancel,List.getElem?_eq_getElem (show k<l.length by omega),Option.getD_some]
 simp

set_option maxRecDepth 100000 in
theorem y4 (l:List UInt8) (B:Nat) (A:Option Addr) (n c:Nat) (w:World) (hn:l.length=n) (hm:n<=maxLen) (h:Sees w B A (bv l)) :
  Calls Tryz.prog 161 #[.slice A n c] w fun e w'=>e = .returned (.bool (mayN l))/\w=w':=by
 unfold maxLen at hm
 subst hn
 have HB:=aa (fun k (hk:k<l.length) (hb:badN l k=true)=>ry hk hb)
 have HG:=aa (fun (hg:∀k,k<l.length->badN l k=false)=>og hg)
 generalize mayN l=r at HB HG ⊢
 go_enter Tryz.func161,Tryz.ntmps161
 go_wp2
 go_loop [7] (fun i=>∃k:Nat,k<=l.length/\i = .int .i64 k/\Hid (∀j,j<k->badN l j=false)) (fun i=>l.length - (intOf i).toNat)
 case atStart=>exact ⟨0,by omega,rfl,aa (fun j hj=>by omega)⟩
 case round =>
  obtain ⟨k,hk,rfl,HK⟩:=hrel
  by_cases hlt:k<l.length
  ·obtain ⟨b,o,rfl,hbB,hck⟩:=h.u8 hlt
   have hx:=l[k].toNat_lt
   match k,hk,hlt,hck,HK,hx with
   | 0,hk,hlt,hck,HK,hx =>
    rw [Nat.add_zero] at hck
    have HZ:=aa (ka hlt)
    by_cases q0:64<=l[0].toNat
    ·have HR:=aa (HB.out 0 hlt (by rw [HZ.out];simp [q0]))
     go_wp2
     go_ret
     exact ⟨cO HR.out.symm,rfl⟩
    ·have HN:=aa (show ∀j,j<1->badN l j=false from fun j hj=>by
      obtain rfl:j=0:=by omega
      rw [HZ.out]
      simp [q0])
     go_wp2
     go_round
     case rel=>exact ⟨1,by omega,rfl,HN⟩
     case measure=>simp [intOf];omega
   | k+1,hk,hlt,hck,HK,hx =>
    obtain ⟨b',o',he, -,hcp⟩:=h.u8 (show k<l.length by omega)
    injection he with he
    injection he with he1 he2
    subst he1 he2
    have hy:=l[k].toNat_lt
    have HZ:=aa (gM hlt)
    by_cases q0:64<=l[k+1].toNat
    ·have HR:=aa (HB.out _ hlt (by rw [HZ.out];simp [q0]))
     go_wp2
     go_ret
     exact ⟨cO HR.out.symm,rfl⟩
    ·by_cases q1:l[k+1].toNat<=l[k].toNat
     ·have HR:=aa (HB.out _ hlt (by rw [HZ.out];simp [q1]))
      go_wp2
      go_ret
      exact ⟨cO HR.out.symm,rfl⟩
     ·have HN:=aa (show ∀j,j<k+2->badN l j=false from fun j hj=>by
       by_cases hj':j<k+1
       ·exact HK.out j hj'
       ·obtain rfl:j=k+1:=by omega
        rw [HZ.out]
        simp [q0,q1])
      go_wp2
      go_round
      case rel=>exact ⟨k+2,by omega,by go_num,HN⟩
      case measure=>simp [intOf];omega
  ·obtain rfl:k=l.length:=by omega
   have HR:=aa (HG.out HK.out)
   go_wp2
   go_ret
   exact ⟨cO HR.out.symm,rfl⟩

end Go.Proofs.YtnkjdijbfnmnhaaGreat
