import Derived.Test.YtgnfknjopafngabGreatDoorKan
set_option maxRecDepth 100000
set_option maxHeartbeats 8000000
namespace Go.Proofs.YtgnfknjopafngabGreatDoor
open Go.RowKit
def Zaa(l:List (List UInt8)):List Value:=l.map Zbe
theorem Z0l{w:World}{g o:Nat}{p:M.Pk}(h:Zgl w g o p):∃ nv bv fv,w.cell? ⟨g,o,none⟩=some (.string ⟨p.name.toArray⟩)/\w.cell? ⟨g,o+1,none⟩=some (.string ⟨p.ver.toArray⟩)/\w.cell? ⟨g,o+2,none⟩=some nv/\w.cell? ⟨g,o+3,none⟩=some bv/\w.cell? ⟨g,o+4,none⟩=some fv/\
 Zc6 w p (.agg #[.string ⟨p.name.toArray⟩,.string ⟨p.ver.toArray⟩,nv,bv,fv]):=by
 obtain⟨nv,bv,fv,h0,h1,h2,h3,h4,h5,h6,h7⟩:=h
 exact⟨nv,bv,fv,h0,h1,h2,h3,h4,⟨nv,bv,fv,rfl,h5,h6,h7⟩⟩
def Z9d:Value->Nat
 | .slice _ n _=>n
 | _=>0
def Yai(R:List (List UInt8) × List M.Pk)(w:World)(e:Ending)(w':World):Prop:=
 ∃ ov lv,e=.returned (.tuple #[ov,lv])/\Zas w' 0 w'.heap.size ov R.1.length (Zaa R.1)/\Zbc w' lv R.2/\Below w.heap.size w w'
theorem Z6v(fv tv:Value)(qZ l:List M.Pk)(w:World)(hf:Zbc w fv qZ)(hl:Zbc w tv l)(hfn:qZ.length<=100000)(hln:l.length<=1000000)(hsf:∀ p∈qZ,Zdk p)(hs:∀ p∈l,Zdk p):
 Calls Tryz.prog 99 #[fv,tv] w (Yai (M.Zb2 l qZ.length qZ []) w):=by
 obtain⟨R,HRR⟩:∃ R,Hid (M.Zb2 l qZ.length qZ []=R):=⟨_,rfl⟩
 rw[HRR.out]
 obtain⟨i0,hi0,hz0,hz1,hz2⟩:=info_parts Zco
 obtain⟨al,cl,el⟩:=hl.form
 subst el
 obtain⟨af,cf,ef⟩:=hf.form
 subst ef
 have HF:=hid hf
 have HL:=hid hl
 have HS:=hid hs
 have HSF:=hid hsf
 clear hl hs hf hsf
 go_enter Tryz.func99,Tryz.ntmps99
 go_wp2_with (at_builtin;refine Zhj rfl _ _ rfl w none 0 (.slice af qZ.length cf) [] qZ rfl rfl ⟨.inl ⟨rfl,none,0,rfl⟩,fun h=>absurd rfl h⟩ rfl (fun _=>rfl) (Zg4.of HF.out) (by simp;omega) ?_;intro v' w1 hv1 hB1)
 rw[List.nil_append] at hv1
 clear HF
 go_loopw [6,7,8,9,10,11,12,13] (fun ov lv _ _ _ _ _ _ wr=>∃ (out:List (List UInt8)) (left:List M.Pk),Zcv w wr lv left/\left.length+out.length<=qZ.length/\Below w.heap.size w wr/\wr.ownsRow w.heap.size 9 1 ov out.length (Zaa out)/\Hid (M.Zb2 l left.length left out=R)/\Hid (∀ p∈left,Zdk p)) (fun _ lv _ _ _ _ _ _ _=>Z9d lv)
 case atStart=>exact⟨[],qZ,hv1,by simp,hB1,World.ownsRow_nil _ _ _ _,HRR,HSF⟩
 case round=>
  obtain⟨out,left,hv,hlen,hBr,hout,HO,HSL⟩:=hrel
  obtain⟨a1,c1,e1⟩:=hv.form
  subst e1
  obtain⟨ao,co,eo⟩:=Zac hout
  subst eo
  have hB1r:True:=trivial
  have hll:left.length<=100000:=by omega
  have HV:=hid hv
  have HOut:=hid hout
  clear hv hout
  obtain⟨W0,hW0⟩:∃ W,W=wr:=⟨_,rfl⟩
  subst hW0
  go_wp2
  go_loopw [8,9,10,11,12] (fun t i _ _ _ wr=>∃ (T:ByteArray) (n:Nat),t=.string T/\i=.int .i64 n/\n<=left.length/\Below W0.heap.size W0 wr/\Hid (T.data.toList=(List.range n).foldl (M.Zhk left l) [])) (fun _ i _ _ _ _=>left.length-(intOf i).toNat)
  case atStart=>exact⟨⟨#[]⟩,0,rfl,rfl,Nat.zero_le _,Below.refl _ _,rfl⟩
  case round=>
   obtain⟨T,n,rfl,rfl,hn,hBi,HT⟩:=hrel
   by_cases hlt:n<left.length
   ·have hsp:=HSL.out _ (List.getElem_mem hlt)
    have HP:Hid (∀ W,Below W0.heap.size W0 W->Zbc W (.slice a1 left.length c1) left):=fun W hb=>(HV.out.below hb).1.pks (bt hBr hb)
    obtain⟨bl,off,rfl,_,hcapl,_⟩:=(HP.out W0 (Below.refl _ _)).cells hlt
    have HC:Hid (∀ W,Below W0.heap.size W0 W->∀ j (hj:j<left.length),Zgl W bl (off+j*5) left[j]):=fun W hb j hj=>by
     obtain⟨_,_,e,_,_,h⟩:=(HP.out W hb).cells hj
     cases e
     exact h
    obtain⟨W1,hW1⟩:∃ W,W=wr:=⟨_,rfl⟩
    subst hW1
    go_wp2
    go_loopw [10,11,12] (fun f j _ wr=>∃ (F:Bool) (k:Nat),f=.bool F/\j=.int .i64 k/\k<=left.length/\Below W0.heap.size W0 wr/\Hid (F=(List.range k).foldl (M.Zlp left l n left[n]) true)) (fun _ j _ _=>left.length-(intOf j).toNat)
    case atStart=>exact⟨true,0,rfl,rfl,Nat.zero_le _,hBi,rfl⟩
    case round=>
     obtain⟨F,k,rfl,rfl,hk,hBk,HFk⟩:=hrel
     by_cases hlk:k<left.length
     ·obtain⟨nv,bv,fv,p0,p1,p2,p3,p4,hpv⟩:=Z0l (HC.out wr hBk n hlt)
      obtain⟨nv',bv',fv',q0,q1,q2,q3,q4,hqv⟩:=Z0l (HC.out wr hBk k hlk)
      have cW:=fun wx (hb:Below wr.heap.size wr wx)=>Z6d left[n] left[k] _ _ (.slice al l.length cl) l wx (hpv.below hb) (hqv.below hb) (HL.out.below (bt hBr (bt hBk hb))) hln hsp (HSL.out _ (List.getElem_mem hlk)) HS.out
      have HG:Hid (∀ f,M.Zlp left l n left[n] f k=if M.Zck left[n] left[k] l=true/\k≠n then false else f):=fun f=>by
       unfold M.Zlp
       rw[List.getElem?_eq_getElem hlk]
      have hBd:Below wr.heap.size wr wr.drew:=Zae wr 1
      generalize M.Zck left[n] left[k] l=wt at cW HG
      clear hpv hqv
      go_wp2_with fail
      go_region_with (go_at_call 146;refine(cW _ ?_).mono ?_;exact hBd;rintro e w3 ⟨rfl,hB3⟩)
      all_goals
       have hB4:Below W0.heap.size W0 w3:=bt hBk (bt hBd hB3)
       clear hB3 cW p0 p1 p2 p3 p4 q0 q1 q2 q3 q4 hBd
       cases wt with
       | false=>
        have HF2:Hid (F=(List.range (k+1)).foldl (M.Zlp left l n left[n]) true):=by
         show _ = _
         rw[Zdb,<-HFk.out,HG.out,if_neg (by rintro ⟨h,_⟩;cases h)]
        go_wp2
        go_roundw
        case rel=>exact⟨F,k+1,rfl,by go_num,by omega,hB4,HF2⟩
        case measure=>simp[intOf];omega
       | true=>
        by_cases hkn:k=n
        ·have hkb:((k:Int) != n)=false:=by simp;omega
         have HF2:Hid (F=(List.range (k+1)).foldl (M.Zlp left l n left[n]) true):=by
          show _ = _
          rw[Zdb,<-HFk.out,HG.out,if_neg (by rintro ⟨_,h⟩;exact h hkn)]
         clear hkn
         go_wp2
         go_roundw
         case rel=>exact⟨F,k+1,rfl,by go_num,by omega,hB4,HF2⟩
         case measure=>simp[intOf];omega
        ·have hkb:((k:Int) != n)=true:=by simp;omega
         have HF2:Hid (false=(List.range (k+1)).foldl (M.Zlp left l n left[n]) true):=by
          show _ = _
          rw[Zdb,<-HFk.out,HG.out,if_pos ⟨rfl,hkn⟩]
         clear hkn
         go_wp2
         go_roundw
         case rel=>exact⟨false,k+1,rfl,by go_num,by omega,hB4,HF2⟩
         case measure=>simp[intOf];omega
     ·have hkk:k=left.length:=by omega
      have HFF:Hid (M.Zd1 left l n left[n]=F):=by
       have h:=HFk.out
       rw[hkk] at h
       exact h.symm
      have HG:Hid (M.Zhk left l T.data.toList n=if M.Zd1 left l n left[n]=true then M.Zc5 T.data.toList left[n].name else T.data.toList):=by
       show _ = _
       unfold M.Zhk
       rw[List.getElem?_eq_getElem hlt]
      rw[HFF.out] at HG
      clear hkk HFk HFF
      obtain⟨_,_,_,p0,_⟩:=HC.out wr hBk n hlt
      cases F with
      | true=>
       obtain⟨Y,hY⟩:∃ Y:ByteArray,Y=⟨left[n].name.toArray⟩:=⟨_,rfl⟩
       rw[<-hY] at p0
       have cF:=fun wx=>Zhi T Y wx
       have HT2:Hid ((Zcu T Y).data.toList=(List.range (n+1)).foldl (M.Zhk left l) []):=by
        show _ = _
        rw[Zdb,<-HT.out,HG.out,if_pos rfl,hY]
        rfl
       generalize Zcu T Y=Z at cF HT2
       clear hY
       go_wp2_with (go_at_call 100;refine(cF _).mono ?_;rintro e w' ⟨rfl,rfl⟩)
       go_roundw
       case rel=>exact⟨Z,n+1,rfl,by go_num,by omega,hBk,HT2⟩
       case measure=>simp[intOf];omega
      | false=>
       have HT2:Hid (T.data.toList=(List.range (n+1)).foldl (M.Zhk left l) []):=by
        show _ = _
        rw[Zdb,<-HT.out,HG.out,if_neg (by decide)]
       go_wp2
       go_roundw
       case rel=>exact⟨T,n+1,rfl,by go_num,by omega,hBk,HT2⟩
       case measure=>simp[intOf];omega
   ·have hnn:n=left.length:=by omega
    have HT2:Hid (T.data.toList=M.Ze7 left l):=by
     have h:=HT.out
     rw[hnn] at h
     exact h
    clear hnn HT
    by_cases hte:T.toList.isEmpty=true
    ·have HE:Hid (R=(out,left)):=by
      show _ = _
      rw[<-HO.out]
      exact M.Z4m (by rw[<-HT2.out];rw[Lib.toList_data] at hte;exact List.isEmpty_iff.1 hte)
     go_wp2
     refine bodyPost_ret (v:=.tuple #[.slice ao out.length co,.slice a1 left.length c1]) (by simp[results,Tryz.results99,go_sem]) rfl ⟨_,_,rfl,?_,?_,bt hBr hBi⟩
     ·rw[HE.out]
      exact(Zas.own (own_below HOut.out hBi)).wide (Nat.zero_le _) ler
     ·rw[HE.out]
      exact(HV.out.below hBi).1.pks (bt hBr hBi)
    ·replace hte:T.toList.isEmpty=false:=by simpa using hte
     have hne:M.Ze7 left l≠[]:=by
      rw[<-HT2.out]
      rw[Lib.toList_data] at hte
      intro e
      rw[e] at hte
      cases hte
     obtain⟨k,hk,hkf⟩:=M.Zqw hne
     have HStep:Hid (M.Zb2 l (left.take k++left.drop (k+1)).length (left.take k++left.drop (k+1)) (out++[T.data.toList])=R):=by
      show _ = _
      rw[<-HO.out,HT2.out]
      exact(M.Zrr hne hk hkf).symm
     have HFind:Hid (Zke left T=k):=by
      show M.Zex _ _ = _
      unfold M.Zex
      rw[HT2.out,hkf]
     have hown1:=own_below HOut.out hBi
     have hv1:=HV.out.below hBi
     have hBw:=bt hBr hBi
     clear hne hkf HO
     go_wp2_with (at_builtin;refine wpList_append_own _ rfl _ _ 41 rfl w.heap.size 9 i0 (.string ⟨#[]⟩) 1 16 Tryz.underlying41 hi0 hz0 hz1 hz2 rfl (by decide) _ _ _ rfl (hown1.alloc _) ⟨wr.heap.size,0,none⟩ 1 1 [.string T] rfl rfl ?c1 ?c2 ?c3 ?c4 ?c5 ?_)
     case c1=>exact Zca _ _ _
     case c2=>intro u hu;simp at hu;subst hu;rfl
     case c3=>unfold maxLen;omega
     case c4=>omega
     case c5=>simp;have:=hBw.size;omega
     intro v2 w3 hown' hgrow _
     have R1:w3.ownsRow w.heap.size 9 1 v2 (out++[T.data.toList]).length (Zaa (out++[T.data.toList])):=by
      unfold Zaa
      rw[List.map_append,List.length_append];exact hown'
     have R2:Below w.heap.size w w3:=
      (hBw.alloc (by have:=hBw.size;omega) _).grown hgrow (by simp;have:=hBw.size;omega) (fun j hj=>(hown1.lt j hj).1)
     have R3:Zcv w w3 (.slice a1 left.length c1) left:=(hv1.below ((Below.refl _ wr).alloc ler _)).grown (hown1.alloc _) (by decide) hgrow
     obtain⟨a2,c2,e2⟩:=Zac R1
     subst e2
     have cN:=fun wx (hb:Below w3.heap.size w3 wx)=>Zni (.slice a1 left.length c1) left T wx ((R3.below hb).1.pks (bt R2 hb)) (by omega)
     rw[HFind.out] at cN
     clear hown' hgrow hown1 hv1
     go_wp2_with (go_at_call 95;refine(cN _ (Below.refl _ _)).mono ?_;rintro e w4 ⟨rfl,hB4⟩)
     obtain⟨g,off,rfl,_,hcap,hl1,hs2⟩:=(R3.below hB4).cut hk
     have hl1':=hl1.below (Zae w4 1)
     have hs2':=hs2.keep (w':=w4.drew) ler (fun _ _ _ _ _ _ _=>rfl)
     have hlt2:k+1<=left.length:=hk
     have e1:(left.take k).length=k:=by rw[List.length_take];omega
     have e2:(left.drop (k+1)).length=left.length-(k+1):=List.length_drop
     have hA:=fun W=>Zzb W g off left.length c1 k (by omega)
     have hD:=fun W=>Zu5 W g off left.length c1 (k+1) (by omega)
     have hw1:((k+1:Nat):Int)=(k:Int)+1:=by omega
     rw[hw1] at hD
     have hw2:IntKind.i64.wrap ((k:Int)+1)=(k:Int)+1:=by rw[IntKind.wrap_i64];omega
     have hS:Zg4 w w4.drew (.slice (if c1=k+1 then some ⟨g,off,none⟩ else some ⟨g,off+(k+1)*5,none⟩) (left.length-(k+1)) (c1-(k+1))) (left.drop (k+1)):=by
      by_cases hc:c1=k+1
      ·exact .inl ⟨List.length_eq_zero_iff.mp (by rw[e2];omega),if c1=k+1 then some ⟨g,off,none⟩ else some ⟨g,off+(k+1)*5,none⟩,c1-(k+1),by rw[show left.length-(k+1)=0 by omega]⟩
      ·rw[if_neg hc];exact hs2'
     obtain⟨V,hV⟩:∃ V,V=Value.slice (if c1=k+1 then some ⟨g,off,none⟩ else some ⟨g,off+(k+1)*5,none⟩) (left.length-(k+1)) (c1-(k+1)):=⟨_,rfl⟩
     rw[<-hV] at hS hD
     clear hV hs2' hs2 hw1 e2
     have HS1:Hid (Zcv w w4.drew (.slice (some ⟨g,off,none⟩) k k) (left.take k)):=hl1'
     have HS2:=hid hS
     clear hl1' hS hl1
     clear R3 cN hcap hlt2 HV HOut
     go_wp2
     go_region_law (refine Ziu rfl (.tmp 66) (.tmp 70) rfl w (some ⟨g,off,none⟩) (left.take k).length V (left.take k) (left.drop (k+1)) (by rw[e1];simp[Act.eval,Act.put]) (by simp[Act.eval,Act.put]) (by rw[e1];exact HS1.out) rfl (fun h=>by cases h) (by exact HS2.out) (by rw[e1,List.length_drop];omega) ?_;intro v5 w5 hv5 hB5)
     have hB6:Below w4.heap.size w4 w5:=bt (Zae w4 1) hB5
     have hlen2:(left.take k++left.drop (k+1)).length=left.length-1:=by rw[List.length_append,e1,List.length_drop];omega
     obtain⟨a5,c5,rfl⟩:=hv5.form
     have R5:w5.ownsRow w.heap.size 9 1 (.slice a2 (out++[T.data.toList]).length c2) (out++[T.data.toList]).length (Zaa (out++[T.data.toList])):=own_below (own_below R1 hB4) hB6
     have RB:Below w.heap.size w w5:=bt R2 (bt hB4 hB6)
     have HSL2:Hid (∀ p∈left.take k++left.drop (k+1),Zdk p):=fun p hp=>HSL.out p (by
      rcases List.mem_append.1 hp with hp|hp
      ·exact List.mem_of_mem_take hp
      ·exact List.mem_of_mem_drop hp)
     have HL5:=hid hv5
     clear hv5 hB5 hB6 HS1 HS2 hA hD hw2
     simp only[Act.put,List.getElem_toArray,List.getElem_cons_succ,List.getElem_cons_zero,List.setIfInBounds_toArray,List.set_cons_succ,List.set_cons_zero]
     go_wp2
     go_roundw
     case rel=>
      refine⟨out++[T.data.toList],left.take k++left.drop (k+1),?_,?_,RB,?_,HStep,HSL2⟩
      ·first|exact HL5.out|(rw[hlen2];exact HL5.out)|(have:=HL5.out;rw[hlen2] at this;exact this)
      ·rw[hlen2,List.length_append];simp;omega
      ·first|exact R5|(have:=R5;rw[List.length_append] at this ⊢;exact this)
     case measure=>simp only[Z9d,hlen2];omega
namespace M
theorem Zbt:∀ a:List UInt8,Op.bytesLess a a=false
 | []=>rfl
 | a :: r=>by simp[Op.bytesLess,Zbt r]
theorem Zf9:∀ {a b:List UInt8},Op.bytesLess a b=false->Op.bytesLess b a=false->a=b
 | [],[],_,_=>rfl
 | [],_ :: _,h,_=>by simp[Op.bytesLess] at h
 | _ :: _,[],_,h=>by simp[Op.bytesLess] at h
 | a :: x,b :: y,h,h'=>by
  simp only[Op.bytesLess,Bool.or_eq_false_iff,decide_eq_false_iff_not,Bool.and_eq_false_iff] at h h'
  have e:a=b:=UInt8.le_antisymm (UInt8.not_lt.1 h'.1) (UInt8.not_lt.1 h.1)
  subst e
  simp only[beq_self_eq_true,Bool.true_eq_false,false_or] at h h'
  rw[Zf9 h.2 h'.2]
theorem Zfk:∀ {a b c:List UInt8},Op.bytesLess a b=true->Op.bytesLess b c=true->Op.bytesLess a c=true
 | [],[],_,h,_=>by simp[Op.bytesLess] at h
 | [],_ :: _,[],_,h=>by simp[Op.bytesLess] at h
 | [],_ :: _,_ :: _,_,_=>rfl
 | _ :: _,[],_,h,_=>by simp[Op.bytesLess] at h
 | _ :: _,_ :: _,[],_,h=>by simp[Op.bytesLess] at h
 | a :: x,b :: y,c :: z,h,h'=>by
  simp only[Op.bytesLess,Bool.or_eq_true,decide_eq_true_eq,Bool.and_eq_true,beq_iff_eq] at h h' ⊢
  rcases h with h|⟨rfl,h⟩
  ·rcases h' with h'|⟨rfl,h'⟩
   ·exact .inl (UInt8.lt_trans h h')
   ·exact .inl h
  ·rcases h' with h'|⟨rfl,h'⟩
   ·exact .inl h'
   ·exact .inr ⟨rfl,Zfk h h'⟩
theorem Zet{a b:List UInt8}(h:Op.bytesLess a b=true):Op.bytesLess b a=false:=by
 cases hb:Op.bytesLess b a with
 | false=>rfl
 | true=>have:=Zfk h hb;rw[Zbt] at this;cases this
theorem Yad{a b c:List UInt8}(h:Op.bytesLess a b=true)(h':Op.bytesLess c b=false):Op.bytesLess a c=true:=by
 cases hbc:Op.bytesLess b c with
 | true=>exact Zfk h hbc
 | false=>rw[<-Zf9 hbc h'];exact h
theorem Ycl{a b c:List UInt8}(h:Op.bytesLess b a=false)(h':Op.bytesLess c b=false):Op.bytesLess c a=false:=by
 cases hca:Op.bytesLess c a with
 | false=>rfl
 | true=>have:=Yad hca h;rw[h'] at this;cases this
def Zbp(S:List UInt8->Prop)(m:List UInt8):Prop:=(∀ x,S x->x≠[])/\((m=[]/\∀ x,¬ S x)\/(S m/\∀ x,S x->Op.bytesLess x m=false))
theorem Zbp.unique{S:List UInt8->Prop}{a b:List UInt8}(ha:Zbp S a)(hb:Zbp S b):a=b:=by
 obtain⟨_,⟨rfl,h⟩|⟨h,h'⟩⟩:=ha
 ·obtain⟨_,⟨rfl,_⟩|⟨k,_⟩⟩:=hb
  ·rfl
  ·exact absurd k (h _)
 ·obtain⟨_,⟨rfl,k⟩|⟨k,k'⟩⟩:=hb
  ·exact absurd h (k _)
  ·exact Zf9 (k' _ h) (h' _ k)
theorem Zbp.congr{S T:List UInt8->Prop}{a:List UInt8}(h:Zbp S a)(e:∀ x,S x↔T x):Zbp T a:=by
 have:S=T:=funext fun x=>propext (e x)
 rw[<-this];exact h
theorem Zbp.start:Zbp (fun _=>False) []:=⟨fun _ h=>h.elim,.inl ⟨rfl,fun _ h=>h⟩⟩
theorem Zbp.nil_iff{S:List UInt8->Prop}{a:List UInt8}(h:Zbp S a):a=[]↔∀ x,¬ S x:=by
 obtain⟨h0,⟨rfl,h⟩|⟨h,h'⟩⟩:=h
 ·exact⟨fun _=>h,fun _=>rfl⟩
 ·exact⟨fun e=>absurd e (h0 _ h),fun k=>absurd h (k _)⟩
theorem Zbp.add{S:List UInt8->Prop}{n y:List UInt8}(h:Zbp S n)(hy:y≠[]):Zbp (fun x=>S x\/x=y) (Zc5 n y):=by
 refine⟨fun x hx=>hx.elim (h.1 x) (fun e=>e ▸ hy),.inr ?_⟩
 obtain⟨h0,⟨rfl,h⟩|⟨h,h'⟩⟩:=h
 ·have e:Zc5 [] y=y:=by unfold Zc5;rw[if_pos (.inl rfl)]
  rw[e]
  exact⟨.inr rfl,fun x hx=>hx.elim (fun k=>absurd k (h _)) (fun e=>e ▸ Zbt _)⟩
 ·have hn:n≠[]:=h0 _ h
  unfold Zc5
  by_cases hl:Op.bytesLess y n=true
  ·rw[if_pos (.inr ⟨hy,hl⟩)]
   refine⟨.inr rfl,fun x hx=>hx.elim (fun k=>?_) (fun e=>e ▸ Zbt _)⟩
   exact Ycl (Zet hl) (h' x k)
  ·rw[if_neg (fun k=>k.elim hn (fun k=>hl k.2))]
   exact⟨.inl h,fun x hx=>hx.elim (h' x) (fun e=>e ▸ by simpa using hl)⟩
theorem Zbp.fold{α:Type}{step:List UInt8->α->List UInt8}{T:α->List UInt8->Prop}:∀ (l:List α),(∀ n a S,a∈l->Zbp S n->Zbp (fun x=>S x\/T a x) (step n a))->∀ (n:List UInt8) (S:List UInt8->Prop),Zbp S n->Zbp (fun x=>S x\/∃ a∈l,T a x) (l.foldl step n)
 | [],_,n,S,h=>h.congr (fun x=>by simp)
 | a :: l,hs,n,S,h=>by
  refine(Zbp.fold l (fun n b S hb=>hs n b S (by simp[hb])) (step n a) _ (hs n a S (by simp) h)).congr (fun x=>?_)
  simp[or_assoc]
theorem Zbp.fold0{α:Type}{step:List UInt8->α->List UInt8}{T:α->List UInt8->Prop}(l:List α)(h:∀ n a S,a∈l->Zbp S n->Zbp (fun x=>S x\/T a x) (step n a)):Zbp (fun x=>∃ a∈l,T a x) (l.foldl step []):=
 (Zbp.fold l h [] _ Zbp.start).congr (fun x=>by simp)
theorem Zbp.skip{S T:List UInt8->Prop}{n:List UInt8}(h:Zbp S n)(ht:∀ x,¬ T x):Zbp (fun x=>S x\/T x) n:=h.congr (fun x=>⟨.inl,fun k=>k.elim id (fun k=>absurd k (ht x))⟩)
def Z5s(l:List Pk)(p:Pk):Prop:=∃ g∈p.needs,Zeb g l=false
theorem Zxv{l:List Pk}(hn:∀ p∈l,p.name≠[]):Zbp (fun x=>∃ p∈l,Z5s l p/\x=p.name) (Za2 l):=by
 unfold Za2
 refine Zbp.fold0 l (fun n p S hp h=>?_)
 unfold Z9h
 refine(Zbp.fold (T:=fun g x=>Zeb g l=false/\x=p.name) p.needs (fun n g S hg h=>?_) n S h).congr (fun x=>?_)
 ·unfold Zws
  by_cases ha:Zeb g l=true
  ·rw[if_pos ha]
   exact h.skip (fun x k=>by rw[ha] at k;exact Bool.noConfusion k.1)
  ·rw[if_neg ha]
   exact(h.add (hn p hp)).congr (fun x=>by simp[ha])
 ·unfold Z5s
  constructor
  ·rintro (k|⟨g,hg,k1,k2⟩)
   ·exact .inl k
   ·exact .inr ⟨⟨g,hg,k1⟩,k2⟩
  ·rintro (k|⟨⟨g,hg,k1⟩,k2⟩)
   ·exact .inl k
   ·exact .inr ⟨g,hg,k1,k2⟩
def Apart(l:List Pk):Prop:=(l.map Pk.name).Nodup
theorem Apart.inj{l:List Pk}(h:Apart l){i k:Nat}{p q:Pk}(hi:l[i]? = some p)(hk:l[k]? = some q):p.name=q.name↔i=k:=by
 constructor
 ·intro e
  obtain⟨hi',rfl⟩:=List.getElem?_eq_some_iff.1 hi
  obtain⟨hk',rfl⟩:=List.getElem?_eq_some_iff.1 hk
  have h':=List.pairwise_iff_getElem.1 (show (l.map Pk.name).Pairwise (·≠·) from h)
  rcases Nat.lt_trichotomy i k with hlt|e'|hlt
  ·exact absurd (by rw[List.getElem_map,List.getElem_map];exact e) (h' i k (by simpa using hi') (by simpa using hk') hlt)
  ·exact e'
  ·exact absurd (by rw[List.getElem_map,List.getElem_map];exact e.symm) (h' k i (by simpa using hk') (by simpa using hi') hlt)
 ·rintro rfl
  rw[hi] at hk
  cases hk
  rfl
theorem Apart.perm{l k:List Pk}(h:Apart l)(hp:l.Perm k):Apart k:=(hp.map Pk.name).nodup_iff.1 h
theorem Apart.eq{l:List Pk}(h:Apart l){p q:Pk}(hp:p∈l)(hq:q∈l)(e:p.name=q.name):p=q:=by
 obtain⟨i,hi⟩:=List.mem_iff_getElem?.1 hp
 obtain⟨k,hk⟩:=List.mem_iff_getElem?.1 hq
 have:=(h.inj hi hk).1 e
 subst this
 rw[hi] at hk
 cases hk
 rfl
def Z9y(l:List Pk)(p:Pk):Prop:=∃ q∈l,q.name≠p.name/\Zeb p.bars [q]=true
theorem Zn2{l:List Pk}(ha:Apart l)(hn:∀ p∈l,p.name≠[]):Zbp (fun x=>∃ p∈l,Z9y l p/\x=p.name) (Zbg l):=by
 unfold Zbg
 refine(Zbp.fold0 (T:=fun i x=>∃ p,l[i]? = some p/\Z9y l p/\x=p.name) (List.range l.length) (fun n i S hi h=>?_)).congr (fun x=>?_)
 ·have hi':i<l.length:=List.mem_range.1 hi
  unfold Yc5
  rw[List.getElem?_eq_getElem hi']
  dsimp only
  refine(Zbp.fold (T:=fun k x=>∃ q,l[k]? = some q/\q.name≠l[i].name/\Zeb l[i].bars [q]=true/\x=l[i].name) (List.range l.length) (fun n k S hk h=>?_) n S h).congr (fun x=>?_)
  ·have hk':k<l.length:=List.mem_range.1 hk
   unfold Z9s
   rw[List.getElem?_eq_getElem hk']
   dsimp only
   have hne:l[k].name≠l[i].name↔k≠i:=not_congr (ha.inj (List.getElem?_eq_getElem hk') (List.getElem?_eq_getElem hi'))
   by_cases hb:Zeb l[i].bars [l[k]]=true/\k≠i
   ·rw[if_pos hb]
    refine(h.add (hn _ (List.getElem_mem hi'))).congr (fun x=>or_congr Iff.rfl ⟨fun e=>⟨_,rfl,hne.2 hb.2,hb.1,e⟩,?_⟩)
    rintro ⟨q,e,_,_,e'⟩
    exact e'
   ·rw[if_neg hb]
    refine h.skip (fun x=>?_)
    rintro ⟨q,e,k1,k2,_⟩
    cases e
    exact hb ⟨k2,hne.1 k1⟩
  ·refine or_congr Iff.rfl ⟨?_,?_⟩
   ·rintro ⟨k,hk,q,e,k1,k2,rfl⟩
    exact⟨_,rfl,⟨q,List.mem_of_getElem? e,k1,k2⟩,rfl⟩
   ·rintro ⟨p,e,⟨q,hq,k1,k2⟩,rfl⟩
    cases e
    obtain⟨k,hk⟩:=List.mem_iff_getElem?.1 hq
    exact⟨k,List.mem_range.2 (List.getElem?_eq_some_iff.1 hk).1,q,hk,k1,k2,rfl⟩
 ·constructor
  ·rintro ⟨i,hi,p,e,k,rfl⟩
   exact⟨p,List.mem_of_getElem? e,k,rfl⟩
  ·rintro ⟨p,hp,k,rfl⟩
   obtain⟨i,hi⟩:=List.mem_iff_getElem?.1 hp
   exact⟨i,List.mem_range.2 (List.getElem?_eq_some_iff.1 hi).1,p,hi,k,rfl⟩
def Zts(l:List Pk)(x:List UInt8):Prop:=∃ p∈l,∃ q∈l,∃ f∈p.files,∃ g∈q.files,(over f.path g.path=true\/(f.path=g.path/\p.name≠q.name))/\x=f.path
theorem Zmp{l:List Pk}(ha:Apart l)(hn:∀ p∈l,∀ f∈p.files,f.path≠[]):Zbp (Zts l) (Za4 l):=by
 unfold Za4
 refine(Zbp.fold0 (T:=fun i x=>∃ p,l[i]? = some p/\∃ q∈l,∃ f∈p.files,∃ g∈q.files,(over f.path g.path=true\/(f.path=g.path/\p.name≠q.name))/\x=f.path) (List.range l.length) (fun n i S hi h=>?_)).congr (fun x=>?_)
 ·have hi':i<l.length:=List.mem_range.1 hi
  unfold clI
  rw[List.getElem?_eq_getElem hi']
  dsimp only
  refine(Zbp.fold (T:=fun k x=>∃ q,l[k]? = some q/\∃ f∈l[i].files,∃ g∈q.files,(over f.path g.path=true\/(f.path=g.path/\l[i].name≠q.name))/\x=f.path) (List.range l.length) (fun n k S hk h=>?_) n S h).congr (fun x=>?_)
  ·have hk':k<l.length:=List.mem_range.1 hk
   unfold clK
   rw[List.getElem?_eq_getElem hk']
   dsimp only
   have hne:l[i].name≠l[k].name↔i≠k:=not_congr (ha.inj (List.getElem?_eq_getElem hi') (List.getElem?_eq_getElem hk'))
   refine(Zbp.fold (T:=fun f x=>∃ g∈l[k].files,(over f.path g.path=true\/(f.path=g.path/\l[i].name≠l[k].name))/\x=f.path) l[i].files (fun n f S hf h=>?_) n S h).congr (fun x=>?_)
   ·unfold clA
    refine(Zbp.fold (T:=fun g x=>(over f.path g.path=true\/(f.path=g.path/\l[i].name≠l[k].name))/\x=f.path) l[k].files (fun n g S hg h=>?_) n S h)
    unfold clB
    by_cases hc:over f.path g.path=true\/(f.path=g.path/\i≠k)
    ·rw[if_pos hc]
     exact(h.add (hn _ (List.getElem_mem hi') _ hf)).congr (fun x=>or_congr Iff.rfl ⟨fun e=>⟨hc.imp id (fun k=>⟨k.1,hne.2 k.2⟩),e⟩,fun e=>e.2⟩)
    ·rw[if_neg hc]
     exact h.skip (fun x k=>hc (k.1.imp id (fun k=>⟨k.1,hne.1 k.2⟩)))
   ·refine or_congr Iff.rfl ⟨?_,?_⟩
    ·rintro ⟨f,hf,g,hg,k1,k2⟩;exact⟨_,rfl,f,hf,g,hg,k1,k2⟩
    ·rintro ⟨q,e,f,hf,g,hg,k1,k2⟩;cases e;exact⟨f,hf,g,hg,k1,k2⟩
  ·refine or_congr Iff.rfl ⟨?_,?_⟩
   ·rintro ⟨k,hk,q,e,r⟩;exact⟨_,rfl,q,List.mem_of_getElem? e,r⟩
   ·rintro ⟨p,e,q,hq,r⟩
    cases e
    obtain⟨k,hk⟩:=List.mem_iff_getElem?.1 hq
    exact⟨k,List.mem_range.2 (List.getElem?_eq_some_iff.1 hk).1,q,hk,r⟩
 ·constructor
  ·rintro ⟨i,hi,p,e,r⟩;exact⟨p,List.mem_of_getElem? e,r⟩
  ·rintro ⟨p,hp,r⟩
   obtain⟨i,hi⟩:=List.mem_iff_getElem?.1 hp
   exact⟨i,List.mem_range.2 (List.getElem?_eq_some_iff.1 hi).1,p,hi,r⟩
end M
namespace M
theorem Z2v(p:Pk)(qQ:List Pk):Zck p p qQ=false:=by
 unfold Zck
 rw[List.any_eq_false]
 intro g _
 unfold Zdd
 cases Zeb g [p] <;> simp
def Z8l(l qQ:List Pk)(p:Pk):Prop:=∀ q∈l,Zck p q qQ=false
theorem Zr6(l qQ:List Pk)(i:Nat)(p:Pk):∀ (ks:List Nat) (b:Bool),ks.foldl (Zlp l qQ i p) b=true↔b=true/\∀ k∈ks,∀ q,l[k]? = some q->¬ (Zck p q qQ=true/\k≠i)
 | [],b=>by simp
 | k :: ks,b=>by
  rw[List.foldl_cons,Zr6 l qQ i p ks]
  unfold Zlp
  cases h:l[k]? with
  | none=>
   simp only[List.mem_cons,forall_eq_or_imp]
   constructor
   ·rintro ⟨h1,h2⟩;exact⟨h1,fun q e=>(by rw[h] at e;cases e),h2⟩
   ·rintro ⟨h1,_,h2⟩;exact⟨h1,h2⟩
  | some q=>
   simp only[List.mem_cons,forall_eq_or_imp]
   by_cases hw:Zck p q qQ=true/\k≠i
   ·rw[if_pos hw]
    constructor
    ·rintro ⟨h1,_⟩;cases h1
    ·rintro ⟨_,h1,_⟩;exact absurd hw (h1 q h)
   ·rw[if_neg hw]
    constructor
    ·rintro ⟨h1,h2⟩;exact⟨h1,fun q' e=>(by rw[h] at e;cases e;exact hw),h2⟩
    ·rintro ⟨h1,_,h2⟩;exact⟨h1,h2⟩
theorem Z7r{l qQ:List Pk}{i:Nat}{p:Pk}(hi:l[i]? = some p):Zd1 l qQ i p=true↔Z8l l qQ p:=by
 unfold Zd1 Z8l
 rw[Zr6]
 constructor
 ·rintro ⟨_,h⟩ q hq
  obtain⟨k,hk⟩:=List.mem_iff_getElem?.1 hq
  have:=h k (List.mem_range.2 (List.getElem?_eq_some_iff.1 hk).1) q hk
  by_cases e:k=i
  ·subst e
   rw[hi] at hk
   cases hk
   exact Z2v p qQ
  ·cases hw:Zck p q qQ with
   | false=>rfl
   | true=>exact absurd ⟨hw,e⟩ this
 ·intro h
  refine⟨rfl,fun k _ q hq hk=>?_⟩
  rw[h q (List.mem_of_getElem? hq)] at hk
  cases hk.1
theorem Zuu{l:List Pk}(qQ:List Pk)(hn:∀ p∈l,p.name≠[]):Zbp (fun x=>∃ p∈l,Z8l l qQ p/\x=p.name) (Ze7 l qQ):=by
 unfold Ze7
 refine(Zbp.fold0 (T:=fun i x=>∃ p,l[i]? = some p/\Z8l l qQ p/\x=p.name) (List.range l.length) (fun n i S hi h=>?_)).congr (fun x=>?_)
 ·have hi':i<l.length:=List.mem_range.1 hi
  unfold Zhk
  rw[List.getElem?_eq_getElem hi']
  dsimp only
  have hf:=Z7r (qQ:=qQ) (List.getElem?_eq_getElem hi')
  by_cases h1:Zd1 l qQ i l[i]=true
  ·rw[if_pos h1]
   refine(h.add (hn _ (List.getElem_mem hi'))).congr (fun x=>or_congr Iff.rfl ⟨fun e=>⟨_,rfl,hf.1 h1,e⟩,?_⟩)
   rintro ⟨q,e,_,e'⟩
   cases e
   exact e'
  ·rw[if_neg h1]
   refine h.skip (fun x=>?_)
   rintro ⟨q,e,k,_⟩
   cases e
   exact h1 (hf.2 k)
 ·constructor
  ·rintro ⟨i,hi,p,e,k,rfl⟩
   exact⟨p,List.mem_of_getElem? e,k,rfl⟩
  ·rintro ⟨p,hp,k,rfl⟩
   obtain⟨i,hi⟩:=List.mem_iff_getElem?.1 hp
   exact⟨i,List.mem_range.2 (List.getElem?_eq_some_iff.1 hi).1,p,hi,k,rfl⟩
def Zcj(r:List (List UInt8)):Prop:=r.Pairwise fun a b=>Op.bytesLess a b=true
theorem Zcj.nodup{r:List (List UInt8)}(h:Zcj r):r.Nodup:=h.imp (fun {a b} hl e=>by subst e;rw[Zbt] at hl;cases hl)
theorem Zcj.min{S:List UInt8->Prop}{m n:List UInt8}{r:List (List UInt8)}(h:Zcj (n :: r))(hm:Zbp S m)(hS:∀ x,x∈n :: r↔S x):m=n:=by
 refine hm.unique ⟨hm.1,.inr ⟨(hS n).1 (by simp),fun x hx=>?_⟩⟩
 rcases List.mem_cons.1 ((hS x).2 hx) with rfl|hx
 ·exact Zbt _
 ·exact Zet ((List.pairwise_cons.1 h).1 x hx)
theorem Zcj.none{S:List UInt8->Prop}{m:List UInt8}(hm:Zbp S m)(hS:∀ x,¬ S x):m=[]:=hm.nil_iff.2 hS
theorem Zcj.eq:∀ {r s:List (List UInt8)},Zcj r->Zcj s->(∀ x,x∈r↔x∈s)->r=s
 | [],[],_,_,_=>rfl
 | [],b :: s,_,_,h=>by have:=(h b).2 (by simp);simp at this
 | a :: r,[],_,_,h=>by have:=(h a).1 (by simp);simp at this
 | a :: r,b :: s,hr,hs,h=>by
  obtain⟨r1,r2⟩:=List.pairwise_cons.1 hr
  obtain⟨s1,s2⟩:=List.pairwise_cons.1 hs
  have e:a=b:=by
   rcases List.mem_cons.1 ((h a).1 (by simp)) with e|ha
   ·exact e
   ·rcases List.mem_cons.1 ((h b).2 (by simp)) with e|hb
    ·exact e.symm
    ·have:=Zfk (r1 b hb) (s1 a ha)
     rw[Zbt] at this
     cases this
  subst e
  congr 1
  refine Zcj.eq r2 s2 (fun x=>?_)
  have:=h x
  simp only[List.mem_cons] at this
  constructor
  ·intro hx
   rcases this.1 (.inr hx) with e|h'
   ·subst e;have:=r1 x hx;rw[Zbt] at this;cases this
   ·exact h'
  ·intro hx
   rcases this.2 (.inr hx) with e|h'
   ·subst e;have:=s1 x hx;rw[Zbt] at this;cases this
   ·exact h'
theorem Zuo{l:List Pk}(ha:Apart l){k:Nat}(hk:k<l.length):l.take k++l.drop (k+1)=l.filter (fun p=>p.name != l[k].name):=by
 have e:l=l.take k++l[k] :: l.drop (k+1):=by simp
 have hl:∀ (i:Nat) (p:Pk),l[i]? = some p->i≠k->(p.name != l[k].name)=true:=fun i p hi hne=>by
  have:=not_congr (ha.inj hi (List.getElem?_eq_getElem hk))
  simpa using this.2 hne
 have e2:l.filter (fun p=>p.name != l[k].name)=(l.take k++l[k] :: l.drop (k+1)).filter (fun p=>p.name != l[k].name):=congrArg (List.filter _) e
 rw[e2,List.filter_append,List.filter_cons_of_neg (by simp)]
 congr 1
 ·symm
  rw[List.filter_eq_self]
  intro p hp
  obtain⟨i,hi⟩:=List.mem_iff_getElem?.1 hp
  rw[List.getElem?_take] at hi
  split at hi
  ·exact hl i p hi (by omega)
  ·cases hi
 ·symm
  rw[List.filter_eq_self]
  intro p hp
  obtain⟨i,hi⟩:=List.mem_iff_getElem?.1 hp
  rw[List.getElem?_drop] at hi
  exact hl _ p hi (by omega)
theorem Apart.filter{l:List Pk}(h:Apart l)(f:Pk->Bool):Apart (l.filter f):=by
 unfold Apart at *
 exact List.Nodup.sublist ((List.filter_sublist (p:=f) (l:=l)).map Pk.name) h
theorem Z06{l qQ:List Pk}{out:List (List UInt8)}{n:List UInt8}(ha:Apart l)(hr:Ze7 l qQ=n)(hn:n≠[]):
 Zb2 qQ l.length l out=Zb2 qQ (l.filter fun p=>p.name != n).length (l.filter fun p=>p.name != n) (out++[n]):=by
 subst hr
 obtain⟨k,hk,hf⟩:=Zqw hn
 rw[Zrr hn hk hf,Zuo ha hk]
 have:l[k].name=Ze7 l qQ:=by
  have:=(List.findIdx?_eq_some_iff_getElem.1 hf).2.1
  simpa using this
 rw[this]
def Zlo(l qQ:List Pk)(p:Pk):Nat:=(l.filter fun q=>Zck p q qQ).length
theorem Zd8{l qQ:List Pk}{p:Pk}:Zlo l qQ p=0↔Z8l l qQ p:=by
 unfold Zlo Z8l
 rw[List.length_eq_zero_iff,List.filter_eq_nil_iff]
 constructor
 ·intro h q hq;have:=h q hq;simpa using this
 ·intro h q hq;rw[h q hq];simp
theorem Z3b{l qQ:List Pk}(ha:Apart l){q:Pk}(hq:q∈l)(p:Pk):Zlo l qQ p=Zlo (l.filter fun r=>r.name != q.name) qQ p+(if Zck p q qQ=true then 1 else 0):=by
 obtain⟨k,hk,rfl⟩:=List.getElem_of_mem hq
 rw[<-Zuo ha hk]
 unfold Zlo
 conv=>lhs;rw[show l=l.take k++l[k] :: l.drop (k+1) by simp]
 simp only[List.filter_append,List.length_append]
 by_cases hw:Zck p l[k] qQ=true
 ·rw[List.filter_cons_of_pos (p:=fun q=>Zck p q qQ) hw,if_pos hw,List.length_cons];omega
 ·rw[List.filter_cons_of_neg (p:=fun q=>Zck p q qQ) hw,if_neg hw];rfl
def Zfe(l:List Pk):List UInt8:=l.foldl (fun n p=>Zc5 n p.name) []
theorem Zod{l:List Pk}(hn:∀ p∈l,p.name≠[]):Zbp (fun x=>∃ p∈l,x=p.name) (Zfe l):=by
 unfold Zfe
 exact Zbp.fold0 l (fun n p S hp h=>h.add (hn p hp))
end M
end Go.Proofs.YtgnfknjopafngabGreatDoor
