import Derived.Test.YtgnfknjopafngabGreatDoorKaas
set_option maxRecDepth 100000
set_option maxHeartbeats 8000000
namespace Go.Proofs.YtgnfknjopafngabGreatDoor
open Go.RowKit
namespace M
theorem Zig:∀ (ns:List (List UInt8)) (i:Nat) (acc all:List Pk) (n:List UInt8) (r:List (List UInt8)),Zb4 ns i acc=.inr all->Zb4 (ns++n :: r) i acc=(match all.findIdx? (fun p=>p.name == n) with|none=>.inl ⟨3,i+ns.length,0,n⟩|some k=>Zb4 r (i+ns.length+1) (all.take k++all.drop (k+1)))
 | [],i,acc,all,n,r,h=>by simp only[Zb4,Sum.inr.injEq] at h;subst h;rfl
 | m :: ns,i,acc,all,n,r,h=>by
  simp only[Zb4,List.cons_append] at h ⊢
  cases hf:acc.findIdx? (fun p=>p.name == m) with
  | none=>rw[hf] at h;cases h
  | some k=>
   rw[hf] at h
   dsimp only at h ⊢
   rw[Zig ns (i+1) _ all n r h,List.length_cons,show i+1+ns.length=i+(ns.length+1) by omega]
end M
theorem Zx9(tv xv:Value)(qQ:List M.Pk)(qG:List ByteArray)(w:World)(ht:Zbc w tv qQ)(hx:Za8 w xv qG)(htn:qQ.length<=40000)(hxn:qG.length<=20000)(hs:∀ p∈qQ,Zdk p):
 Calls Tryz.prog 92 #[tv,xv] w (Zzs (M.Za6 qQ (qG.map fun t=>t.data.toList)) w):=by
 obtain⟨at',ct,et⟩:=ht.form
 subst et
 obtain⟨ax,cx,ex⟩:=hx.form
 subst ex
 generalize hW1:w.alloc (.cells #[.int .i64 0,.int .i64 0,.int .i64 0,.string ⟨#[]⟩] 118)=W1
 have s1:W1.heap.size=w.heap.size+1:=by rw[<-hW1];simp
 have HB1:Hid (Below w.heap.size w W1):=by rw[<-hW1];exact(Below.refl _ w).alloc ler _
 obtain⟨_,_,nb3,nb4⟩:=Zme w [.int .i64 0,.int .i64 0,.int .i64 0,.string ⟨#[]⟩] 118 0
 have HK:Hid (∀ o u,[Value.int .i64 0,.int .i64 0,.int .i64 0,.string ⟨#[]⟩][o]? = some u->W1.cell? ⟨w.heap.size,o,none⟩=some u):=by rw[<-hW1];exact nb3
 have HFZ:Hid (∀ o,W1.frozen? ⟨w.heap.size,o,none⟩=false):=by rw[<-hW1];exact nb4
 clear nb3 nb4
 have HZ:Hid (∀ W,Below W1.heap.size W1 W->W.cell? ⟨w.heap.size,0,none⟩=some (.int .i64 0)/\W.cell? ⟨w.heap.size,1,none⟩=some (.int .i64 0)/\W.cell? ⟨w.heap.size,2,none⟩=some (.int .i64 0)/\W.cell? ⟨w.heap.size,3,none⟩=some (.string ⟨#[]⟩)/\∀ o,W.frozen? ⟨w.heap.size,o,none⟩=false):=fun W hb=>by
  have kc:∀ o,W.cell? ⟨w.heap.size,o,none⟩=W1.cell? ⟨w.heap.size,o,none⟩:=fun o=>hb.cell (p:=⟨w.heap.size,o,none⟩) (by show w.heap.size < _;omega)
  exact⟨(kc 0).trans (HK.out 0 _ rfl),(kc 1).trans (HK.out 1 _ rfl),(kc 2).trans (HK.out 2 _ rfl),(kc 3).trans (HK.out 3 _ rfl),fun o=>(hb.frozen (p:=⟨w.heap.size,o,none⟩) (by show w.heap.size < _;omega)).trans (HFZ.out o)⟩
 have HT:Hid (Zbc W1 (.slice at' qQ.length ct) qQ):=ht.below HB1.out
 have HX:Hid (Za8 W1 (.slice ax qG.length cx) qG):=Za8.below hx HB1.out
 have HS:=hid hs
 clear ht hx hs
 go_enter Tryz.func92,Tryz.ntmps92
 go_wp2_with (at_builtin;refine Zhj rfl _ _ rfl W1 none 0 (.slice at' qQ.length ct) [] qQ rfl rfl ⟨.inl ⟨rfl,none,0,rfl⟩,fun h=>absurd rfl h⟩ rfl (fun _=>rfl) (Zg4.of HT.out) (by simp;omega) ?_;intro v' w1 hv1 hB1)
 rw[List.nil_append] at hv1
 clear HT
 go_loopw [6,7,8] (fun lv i _ wr=>∃ (k:Nat) (left:List M.Pk),i=.int .i64 k/\k<=qG.length/\Zcv W1 wr lv left/\left.length<=40000/\Below W1.heap.size W1 wr/\Hid (M.Zb4 ((qG.take k).map fun t=>t.data.toList) 0 qQ=.inr left)/\Hid (∀ p∈left,Zdk p)) (fun _ i _ _=>qG.length-(intOf i).toNat)
 case atStart=>exact⟨0,qQ,rfl,Nat.zero_le _,hv1,by omega,hB1,rfl,HS⟩
 case round=>
  obtain⟨k,left,rfl,hk,hv,hll,hBr,HD,HSL⟩:=hrel
  obtain⟨a1,c1,e1⟩:=hv.form
  subst e1
  have HV:=hid hv
  clear hv
  by_cases hlt:k<qG.length
  ·obtain⟨gx,rfl,hgx,hcapx,hcx⟩:=HX.out.cellAt (by omega)
   have c0:wr.cell? ⟨gx,k,none⟩=some (.string qG[k]):=(hBr.cell (p:=⟨gx,k,none⟩) hgx).trans (hcx k _ (by simp[hlt]))
   have HSplit:Hid (qG.map (fun t=>t.data.toList)=(qG.take k).map (fun t=>t.data.toList)++qG[k].data.toList :: (qG.drop (k+1)).map (fun t=>t.data.toList)):=Zkh hlt
   have HTake:Hid ((qG.take (k+1)).map (fun t=>t.data.toList)=(qG.take k).map (fun t=>t.data.toList)++[qG[k].data.toList]):=Zlz hlt
   generalize qG[k]=T at c0 HSplit HTake
   have cN:=fun wx (hb:Below wr.heap.size wr wx)=>Zni (.slice a1 left.length c1) left T wx ((HV.out.below hb).1.pks (bt hBr hb)) (by omega)
   clear hcx
   go_wp2_with fail
   refine(cN _ (Below.refl _ _)).mono ?_
   rintro e w3 ⟨rfl,hB3⟩
   have hB13:Below W1.heap.size W1 w3:=bt hBr hB3
   have c1':w3.cell? ⟨gx,k,none⟩=some (.string T):=(hB3.cell (p:=⟨gx,k,none⟩) (World.block_lt_of_cell? _ _ c0)).trans c0
   clear cN c0
   cases hf:left.findIdx? (fun p=>p.name == T.data.toList) with
   | none=>
    have e:Zke left T = -1:=by unfold Zke M.Zex;rw[hf]
    rw[e]
    have HP:Hid (M.Za6 qQ (qG.map fun t=>t.data.toList)=.inl ⟨3,k,0,T.data.toList⟩):=by
     show _ = _
     unfold M.Za6
     rw[HSplit.out,M.Zig _ _ _ _ _ _ HD.out,hf]
     simp[Nat.min_eq_left (Nat.le_of_lt hlt)]
    have HPV:Hid (faV ⟨3,k,0,T.data.toList⟩=.agg #[.int .i64 3,.int .i64 k,.int .i64 0,.string T]):=by
     show faV _ = _
     have:T=⟨T.data.toList.toArray⟩:=Zjb rfl
     unfold faV
     rw[<-this]
     rfl
    obtain⟨z0,z1,z2,z3,zf⟩:=HZ.out w3 hB13
    have HBF:Hid (Below w.heap.size w w3):=HB1.out.trans (hB13.mono (by omega))
    clear e hf HV
    go_wp2
    go_region
    all_goals
     go_wp2
     refine bodyPost_ret (v:=.tuple #[.slice none 0 0,.agg #[.int .i64 3,.int .i64 k,.int .i64 0,.string T]]) (by simp[results,Tryz.results92,go_sem,z0,z1,z2,z3]) rfl ⟨?_,?_⟩
     ·exact below_drewN ((((HBF.out.setCell ler _).setCell ler _).setCell ler _).setCell ler _) 1
     ·rw[HP.out]
      show _ = Ending.returned (.tuple #[.slice none 0 0,faV _])
      rw[HPV.out]
   | some j=>
    have hjl:j<left.length:=(List.findIdx?_eq_some_iff_getElem.1 hf).1
    have e:Zke left T=(j:Int):=by unfold Zke M.Zex;rw[hf]
    rw[e]
    have HD2:Hid (M.Zb4 ((qG.take (k+1)).map fun t=>t.data.toList) 0 qQ=.inr (left.take j++left.drop (j+1))):=by
     show _ = _
     rw[HTake.out,M.Zig _ _ _ _ _ _ HD.out,hf]
     rfl
    obtain⟨g,off,rfl,_,hcap,hl1,hs2⟩:=(HV.out.below hB3).cut hjl
    have hs2':=hs2.keep (w':=w3.drew) ler (fun _ _ _ _ _ _ _=>rfl)
    have hl1':=hl1.below (Zae w3 1)
    have e1:(left.take j).length=j:=by rw[List.length_take];omega
    have e2:(left.drop (j+1)).length=left.length-(j+1):=List.length_drop
    have hA:=fun W=>Zzb W g off left.length c1 j (by omega)
    have hD:=fun W=>Zu5 W g off left.length c1 (j+1) (by omega)
    have hw1:((j+1:Nat):Int)=(j:Int)+1:=by omega
    rw[hw1] at hD
    have hw2:IntKind.i64.wrap ((j:Int)+1)=(j:Int)+1:=by rw[IntKind.wrap_i64];omega
    have hS:Zg4 W1 w3.drew (.slice (if c1=j+1 then some ⟨g,off,none⟩ else some ⟨g,off+(j+1)*5,none⟩) (left.length-(j+1)) (c1-(j+1))) (left.drop (j+1)):=by
     by_cases hc:c1=j+1
     ·exact .inl ⟨List.length_eq_zero_iff.mp (by rw[e2];omega),if c1=j+1 then some ⟨g,off,none⟩ else some ⟨g,off+(j+1)*5,none⟩,c1-(j+1),by rw[show left.length-(j+1)=0 by omega]⟩
     ·rw[if_neg hc];exact hs2'
    obtain⟨V,hV⟩:∃ V,V=Value.slice (if c1=j+1 then some ⟨g,off,none⟩ else some ⟨g,off+(j+1)*5,none⟩) (left.length-(j+1)) (c1-(j+1)):=⟨_,rfl⟩
    rw[<-hV] at hS hD
    have HS1:Hid (Zcv W1 w3.drew (.slice (some ⟨g,off,none⟩) j j) (left.take j)):=hl1'
    have HS2:=hid hS
    have hlen2:(left.take j++left.drop (j+1)).length=left.length-1:=by rw[List.length_append,e1,e2];omega
    have HLen:Hid ((left.take j++left.drop (j+1)).length<=40000):=by show _<=_;rw[hlen2];omega
    have HSL2:Hid (∀ p∈left.take j++left.drop (j+1),Zdk p):=fun p hp=>HSL.out p (by
     rcases List.mem_append.1 hp with hp|hp
     ·exact List.mem_of_mem_take hp
     ·exact List.mem_of_mem_drop hp)
    have hj0:¬ ((j:Int)<0):=by omega
    clear hV hs2' hs2 hw1 e2 hl1' hS hl1 HV hlen2 e hf hcap
    go_wp2
    go_region_law (refine Ziu rfl (.tmp 35) (.tmp 39) rfl W1 (some ⟨g,off,none⟩) (left.take j).length V (left.take j) (left.drop (j+1)) (by rw[e1];simp[Act.eval,Act.put]) (by simp[Act.eval,Act.put]) (by rw[e1];exact HS1.out) rfl (fun h=>by cases h) (by exact HS2.out) (by rw[e1,List.length_drop];omega) ?_;intro v5 w5 hv5 hB5)
    have hB6:Below W1.heap.size W1 w5:=bt hB13 (bt (Zae w3 1) hB5)
    clear HS1 HS2 hA hD hw2
    simp only[Act.put,List.getElem_toArray,List.getElem_cons_succ,List.getElem_cons_zero,List.setIfInBounds_toArray,List.set_cons_succ,List.set_cons_zero]
    go_wp2
    go_roundw
    case rel=>exact⟨k+1,left.take j++left.drop (j+1),by go_num,by omega,hv5,HLen.out,hB6,HD2,HSL2⟩
    case measure=>simp[intOf];omega
  ·have hkk:k=qG.length:=by omega
   have HD2:Hid (M.Zb4 (qG.map fun t=>t.data.toList) 0 qQ=.inr left):=by
    have h:=HD.out
    rw[hkk,List.take_length] at h
    exact h
   have cL:=fun wx (hb:Below wr.heap.size wr wx)=>Zoc (.slice a1 left.length c1) left wx ((HV.out.below hb).1.pks (bt hBr hb)) (by omega) HSL.out
   have HVr:Hid (Zbc wr (.slice a1 left.length c1) left):=HV.out.1.pks hBr
   have HTy:Hid (Zjt wr (.slice a1 left.length c1) left):=HV.out.2
   clear hkk HD HV
   go_wp2_with fail
   refine(cL _ (Below.refl _ _)).mono ?_
   rintro e w3 ⟨T1,rfl,hT1,hB3⟩
   have HT1:=hid hT1
   have hB13:Below W1.heap.size W1 w3:=bt hBr hB3
   obtain⟨z0,z1,z2,z3,zf⟩:=HZ.out w3 hB13
   have HBF:Hid (Below w.heap.size w w3):=HB1.out.trans (hB13.mono (by omega))
   clear cL hT1
   by_cases ht1:T1.toList.isEmpty=true
   ·have HP:Hid (M.Za6 qQ (qG.map fun t=>t.data.toList)=.inr left):=by
     show _ = _
     unfold M.Za6
     rw[HD2.out]
     dsimp only
     rw[if_neg (by rw[<-HT1.out,str_eq ht1];simp)]
    go_wp2
    refine bodyPost_ret (v:=.tuple #[.slice a1 left.length c1,.agg #[.int .i64 0,.int .i64 0,.int .i64 0,.string ⟨#[]⟩]]) (by simp[results,Tryz.results92,go_sem,z0,z1,z2,z3]) rfl ⟨?_,?_⟩
    ·exact(((HBF.out.setCell ler _).setCell ler _).setCell ler _).setCell ler _
    ·rw[HP.out]
     exact⟨_,rfl,(HVr.out.below hB3).same (by rw[Za0,Za0,Za0,Za0]) (fun a=>Zkz z0 z1 z2 z3 a) (fun g e=>Zb0 (Zb0 (Zb0 (Zb0 e)))),((((HTy.out.below hB3).set _ _ _).set _ _ _).set _ _ _).set _ _ _⟩
   ·replace ht1:T1.toList.isEmpty=false:=by simpa using ht1
    have HP:Hid (M.Za6 qQ (qG.map fun t=>t.data.toList)=.inl ⟨4,0,0,M.Za2 left⟩):=by
     show _ = _
     unfold M.Za6
     rw[HD2.out]
     dsimp only
     rw[if_pos (by rw[<-HT1.out];exact Zku ht1)]
    have HPV:Hid (faV ⟨4,0,0,M.Za2 left⟩=.agg #[.int .i64 4,.int .i64 0,.int .i64 0,.string T1]):=by show faV _ = _;rw[Zjb HT1.out];rfl
    go_wp2
    refine bodyPost_ret (v:=.tuple #[.slice none 0 0,.agg #[.int .i64 4,.int .i64 0,.int .i64 0,.string T1]]) (by simp[results,Tryz.results92,go_sem,z0,z1,z2,z3]) rfl ⟨?_,?_⟩
    ·exact(((HBF.out.setCell ler _).setCell ler _).setCell ler _).setCell ler _
    ·rw[HP.out]
     show _ = Ending.returned (.tuple #[.slice none 0 0,faV _])
     rw[HPV.out]
theorem Z1r{l:List M.Pk}{x:List UInt8}(hx:∃ p∈l,p.name=x):∃ k,∃ h:k<l.length,M.Zex l x=(k:Int)/\l[k].name=x:=by
 obtain⟨p,hp,e⟩:=hx
 cases hf:l.findIdx? (fun p=>p.name == x) with
 | none=>
  have:=List.findIdx?_eq_none_iff.1 hf p hp
  simp[e] at this
 | some k=>
  obtain⟨h1,h2,_⟩:=List.findIdx?_eq_some_iff_getElem.1 hf
  refine⟨k,h1,?_,by simpa using h2⟩
  unfold M.Zex
  rw[hf]
theorem Z7e(lv:Value)(l:List M.Pk)(w:World)(hl:Zbc w lv l)(hln:l.length<=100000)(hs:∀ p∈l,Zbb p)(ha:M.Apart l):
 Calls Tryz.prog 55 #[lv] w fun e w'=>∃ v,e=.returned v/\Zas w' 0 w'.heap.size v l.length (Zaa (M.Za5 l))/\Below w.heap.size w w':=by
 obtain⟨i0,hi0,hz0,hz1,hz2⟩:=info_parts Zco
 obtain⟨al,cl,el⟩:=hl.form
 subst el
 have HL:=hid hl
 have HS:=hid hs
 have HA:=hid ha
 have HTL:Hid ((M.Za5 l).length=l.length):=by show _ = _;unfold M.Za5;rw[List.length_map,(M.Zbh _).length_eq,List.length_map]
 clear hl hs ha
 go_enter Tryz.func55,Tryz.ntmps55
 go_wp2
 go_loopw [3,4,5,6,7,8] (fun ov t _ _ _ _ wr=>∃ (m:Nat) (L:ByteArray) (out:List (List UInt8)),t=.string L/\m<=l.length/\Below w.heap.size w wr/\wr.ownsRow w.heap.size 9 1 ov m (Zaa out)/\Hid (out=(M.Za5 l).take m)/\Hid (L.data.toList=M.lastOf (M.Zdc (l.map M.Pk.name)) m)) (fun ov _ _ _ _ _ _=>l.length-Z9d ov)
 case atStart=>exact⟨0,⟨#[]⟩,[],rfl,Nat.zero_le _,Below.refl _ _,World.ownsRow_nil _ _ _ _,rfl,rfl⟩
 case round=>
  obtain⟨m,L,out,rfl,hm,hBr,qV,HOut,HLa⟩:=hrel
  obtain⟨ao,co,eo⟩:=Zac qV
  subst eo
  have HOwn:=hid qV
  clear qV
  by_cases hlt:m<l.length
  ·obtain⟨W0,hW0⟩:∃ W,W=wr:=⟨_,rfl⟩
   subst hW0
   go_wp2
   go_loopw [5,6] (fun t i wr=>∃ (T:ByteArray) (j:Nat),t=.string T/\i=.int .i64 j/\j<=l.length/\Below W0.heap.size W0 wr/\Hid (T.data.toList=(l.take j).foldl (fun n p=>if Op.bytesLess L.data.toList p.name=true then M.Zc5 n p.name else n) [])) (fun _ i _=>l.length-(intOf i).toNat)
   case atStart=>exact⟨⟨#[]⟩,0,rfl,rfl,Nat.zero_le _,Below.refl _ _,rfl⟩
   case round=>
    obtain⟨T,j,rfl,rfl,hj,hBj,HT⟩:=hrel
    by_cases hlj:j<l.length
    ·obtain⟨bl,off,rfl,_,hcapl,_,_,_,p0,_⟩:=(HL.out.below (bt hBr hBj)).cells hlj
     obtain⟨Y,hY⟩:∃ Y:ByteArray,Y=⟨l[j].name.toArray⟩:=⟨_,rfl⟩
     rw[<-hY] at p0
     have HY:Hid (Y.data.toList=l[j].name):=by show _ = _;rw[hY]
     clear hY
     by_cases hb:Op.bytesLess L.toList Y.toList=true
     ·have g1:Op.bytesLess Y.toList L.toList=false:=M.Zet hb
      have g2:(Y.toList == L.toList)=false:=by
       rw[beq_eq_false_iff_ne]
       intro e
       rw[e,M.Zbt] at hb
       cases hb
      have cF:=fun wx=>Zhi T Y wx
      have HT2:Hid ((Zcu T Y).data.toList=(l.take (j+1)).foldl (fun n p=>if Op.bytesLess L.data.toList p.name=true then M.Zc5 n p.name else n) []):=by
       show _ = _
       rw[Zd2 _ _ hlj,<-HT.out,if_pos (by rw[<-HY.out,<-Lib.toList_data,<-Lib.toList_data];exact hb),<-HY.out]
       rfl
      generalize Zcu T Y=Z at cF HT2
      clear hb
      go_wp2_with (go_at_call 100;refine(cF _).mono ?_;rintro e w' ⟨rfl,rfl⟩)
      go_roundw
      case rel=>exact⟨Z,j+1,rfl,by go_num,by omega,hBj,HT2⟩
      case measure=>simp[intOf];omega
     ·replace hb:Op.bytesLess L.toList Y.toList=false:=by simpa using hb
      have HT2:Hid (T.data.toList=(l.take (j+1)).foldl (fun n p=>if Op.bytesLess L.data.toList p.name=true then M.Zc5 n p.name else n) []):=by
       show _ = _
       rw[Zd2 _ _ hlj,<-HT.out,if_neg (by rw[<-HY.out,<-Lib.toList_data,<-Lib.toList_data,hb];simp)]
      cases g1:Op.bytesLess Y.toList L.toList with
      | true=>
       clear hb
       go_wp2
       go_roundw
       case rel=>exact⟨T,j+1,rfl,by go_num,by omega,hBj,HT2⟩
       case measure=>simp[intOf];omega
      | false=>
       have g2:(Y.toList == L.toList)=true:=by rw[beq_iff_eq];exact M.Zf9 g1 hb
       clear hb
       go_wp2
       go_roundw
       case rel=>exact⟨T,j+1,rfl,by go_num,by omega,hBj,HT2⟩
       case measure=>simp[intOf];omega
    ·have hjj:j=l.length:=by omega
     obtain⟨x,hx1,hx2⟩:=M.Yat HA.out (fun p hp=>(HS.out p hp).name) hlt
     have HTx:Hid (T.data.toList=x):=by
      show _ = _
      have h:=HT.out
      rw[hjj,List.take_length,HLa.out] at h
      rw[<-hx2]
      exact h
     have hmem:∃ p∈l,p.name=x:=by
      have:=(M.Zbh (l.map M.Pk.name)).mem_iff.1 (List.mem_of_getElem? hx1)
      obtain⟨p,hp,e⟩:=List.mem_map.1 this
      exact⟨p,hp,e⟩
     obtain⟨k,hk,hk1,hk2⟩:=Z1r hmem
     have HFi:Hid (Zke l T=(k:Int)):=by show M.Zex _ _ = _;rw[HTx.out];exact hk1
     have HTo:Hid (M.textOf l x=M.Zaz l[k]):=by show _ = _;rw[<-hk2];exact M.Zhb HA.out (List.getElem_mem hk)
     have HX1:=hid hx1
     have hBw:Below w.heap.size w wr:=bt hBr hBj
     have cN:=fun wx (hb:Below wr.heap.size wr wx)=>Zni (.slice al l.length cl) l T wx (HL.out.below (bt hBw hb)) (by omega)
     rw[HFi.out] at cN
     have hrp:=HS.out _ (List.getElem_mem hk)
     clear hjj hx1 hx2 hmem hk1 hk2 HT
     go_wp2_with fail
     refine(cN _ (Below.refl _ _)).mono ?_
     rintro e w3 ⟨rfl,hB3⟩
     have hB3w:Below w.heap.size w w3:=bt hBw hB3
     obtain⟨g,off,rfl,_,hcap,hc⟩:=(HL.out.below hB3w).cells hk
     obtain⟨nv,bv,fv,p0,p1,p2,p3,p4,hpv⟩:=Z0l hc
     have cP:=fun W (hb:Below w3.heap.size w3 W)=>Zvq l[k] _ W (hpv.below hb) hrp.short
     clear hrp hc cN
     obtain⟨nv',bv',fv',e,h1,h2,h3⟩:=hpv
     simp only[Value.agg.injEq,Array.mk.injEq,List.cons.injEq,and_true,true_and] at e
     obtain⟨rfl,rfl,rfl⟩:=e
     obtain⟨an,cn,en⟩:=h1.form
     obtain⟨ab,cb,eb⟩:=h2.form
     obtain⟨ac,cc,ec⟩:=h3.form
     subst en eb ec
     clear h1 h2 h3
     go_wp2_with fail
     refine(cP _ (Below.refl _ _)).mono ?_
     rintro e w4 ⟨S,rfl,hS,hB4⟩
     have HSx:Hid (S.data.toList=M.textOf l x):=by show _ = _;rw[HTo.out];exact hS
     have hB4w:Below w.heap.size w w4:=bt hB3w hB4
     have hown1:=own_below (own_below (own_below HOwn.out hBj) hB3) hB4
     have HOut2:Hid (out++[S.data.toList]=(M.Za5 l).take (m+1)):=by
      show _ = _
      have hml:m<(M.Za5 l).length:=by rw[HTL.out];exact hlt
      rw[HOut.out,List.take_succ_eq_append_getElem hml,HSx.out]
      congr 2
      have e:(M.Za5 l)[m]? = some (M.textOf l x):=by unfold M.Za5;rw[List.getElem?_map,HX1.out];rfl
      rw[List.getElem?_eq_getElem hml] at e
      injection e with e
      exact e.symm
     have HLa2:Hid (T.data.toList=M.lastOf (M.Zdc (l.map M.Pk.name)) (m+1)):=by
      show _ = (((M.Zdc (l.map M.Pk.name))[m]?).getD [])
      rw[HX1.out,HTx.out]
      rfl
     clear cP p0 p1 p2 p3 p4 hS
     go_wp2_with (at_builtin;refine wpList_append_own _ rfl _ _ 41 rfl w.heap.size 9 i0 (.string ⟨#[]⟩) 1 16 Tryz.underlying41 hi0 hz0 hz1 hz2 rfl (by decide) _ _ _ rfl (hown1.alloc _) ⟨w4.heap.size,0,none⟩ 1 1 [.string S] rfl rfl ?c1 ?c2 ?c3 ?c4 ?c5 ?_)
     case c1=>exact Zca _ _ _
     case c2=>intro u hu;simp at hu;subst hu;rfl
     case c3=>unfold maxLen;omega
     case c4=>omega
     case c5=>simp;have:=hB4w.size;omega
     intro v5 w5 hown' hgrow _
     have RB:Below w.heap.size w w5:=(hB4w.alloc hB4w.size _).grown hgrow (by simp;have:=hB4w.size;omega) (fun i hi=>(hown1.lt i hi).1)
     have RO:w5.ownsRow w.heap.size 9 1 v5 (m+1) (Zaa (out++[S.data.toList])):=by
      unfold Zaa
      rw[List.map_append];exact hown'
     obtain⟨a5,c5,e5⟩:=Zac RO
     subst e5
     clear hown' hgrow hown1
     go_wp2
     go_roundw
     case rel=>exact⟨m+1,T,out++[S.data.toList],rfl,by omega,RB,RO,HOut2,HLa2⟩
     case measure=>simp only[Z9d];omega
  ·have hmm:m=l.length:=by omega
   have HE:Hid (out=M.Za5 l):=by show _ = _;rw[HOut.out,hmm,<-HTL.out,List.take_length]
   go_wp2
   go_ret
   refine⟨_,rfl,?_,hBr⟩
   have h:=(Zas.own HOwn.out).wide (Nat.zero_le _) ler
   rw[HE.out,hmm] at h
   rw[hmm]
   exact h
end Go.Proofs.YtgnfknjopafngabGreatDoor
namespace Go.Proofs.YtgnfknjopafngabGreatDoor
open Go.RowKit Go.Maps
theorem Live.packs{w:World}{F:Nat->Prop}{x n:Nat}{D:M.Dk}{l:List M.Pk}(h:Live w F x n D l):Calls Tryz.prog 26 #[.pointer (some ⟨x,0,none⟩)] w fun e w'=>∃ a c,e=.returned (.tuple #[.slice a l.length c,.bool true])/\Za8 w' (.slice a l.length c) (Zrg l)/\Below w.heap.size w w':=by
 obtain⟨d,s,k,b,qY,hv,sv,lv,h1,h3⟩:=h
 obtain⟨z1,z2⟩:=h1.size
 refine(Zsg x d s k b l w h1.sess h1.store h1.set (by omega) h1.reads (by omega)).mono ?_
 rintro e w' ⟨a,c,rfl,ho,hB⟩
 rw[<-M.Zc3] at ho
 exact⟨a,c,rfl,by rw[<-M.Zc3];exact Zty ho,hB⟩
theorem Zhl{l:List M.Pk}{n:Nat}(h:M.Tog l)(hr:(M.Zbn l:Int)<=24*((n:Int)-8))(hn:n<=256):l.length<=600/\M.Zbn l<=5952:=by
 have:=M.Zlm h.back
 omega
theorem Z5t{W:World}{tv:Value}{qQ:List M.Pk}(tp:Zbc W tv qQ)(tog:M.Tog qQ)(hl:qQ.length<=600):Calls Tryz.prog 55 #[tv] W fun e w'=>∃ a c,e=.returned (.slice a qQ.length c)/\Za8 w' (.slice a qQ.length c) (Zrg qQ)/\Below W.heap.size W w':=by
 refine(Z7e tv qQ W tp (by omega) (fun p hp=>Zbb.of (tog.back p hp)) tog.apart).mono ?_
 rintro e w' ⟨v,rfl,hr,hB⟩
 have hs:Za8 w' v (Zrg qQ):=by
  unfold Za8
  rw[Znr]
  unfold Zrg
  rw[<-Zya]
  exact hr
 obtain⟨a,c,rfl⟩:=hs.form
 rw[Znr] at hs ⊢
 exact⟨a,c,rfl,hs,hB⟩
theorem Zo6{W:World}{wb x n:Nat}{F:Nat->Prop}{D:M.Dk}{tv ov hv:Value}{qK:Bool}{m qQ:List M.Pk}(hw:W.heap[wb]? = some (.cells (wC x n tv ov qK hv) 78 (0,0)))(hl:Live W F x n D m)(tp:Zbc W tv qQ)(tog:M.Tog qQ)(hn:qQ.length<=600):
 Calls Tryz.prog 31 #[.pointer (some ⟨wb,0,none⟩)] W fun e w'=>e=.returned (.bool (decide (Zrg m=Zrg qQ)))/\Below W.heap.size W w':=by
 have hm:m.length<=600:=by obtain⟨d,s,k,b,qY,hv,sv,lv,h1,h3⟩:=hl;exact h1.size.2
 have c0:W.cell? ⟨wb,0,none⟩=some (.pointer (some ⟨x,0,none⟩)):=(cell_of_row W _ 0 _ _ (0,0) hw).trans rfl
 have cP:=hl.packs
 have cT:=fun wx (hb:Below W.heap.size W wx)=>Z5t (tp.below hb) tog hn
 obtain⟨at',ct,et⟩:=tp.form
 subst et
 have c2:W.cell? ⟨wb,2,none⟩=some (.slice at' qQ.length ct):=(cell_of_row W _ 2 _ _ (0,0) hw).trans rfl
 have hlt:wb<W.heap.size:=(ges.1 hw).1
 obtain⟨R,hR⟩:∃ R,R=decide (Zrg m=Zrg qQ):=⟨_,rfl⟩
 have HRR:=hid hR
 rw[<-hR]
 clear hw hl tp tog hR
 go_enter Tryz.func31,Tryz.ntmps31
 go_wp2_with fail
 refine cP.mono ?_
 rintro e w1 ⟨a1,c1,rfl,hs1,hB1⟩
 have d2:w1.cell? ⟨wb,2,none⟩=some (.slice at' qQ.length ct):=(hB1.cell (p:=⟨wb,2,none⟩) hlt).trans c2
 have HS1:=hid hs1
 clear cP hs1 c0 c2
 go_wp2_with fail
 refine(cT _ hB1).mono ?_
 rintro e w2 ⟨a2,c2,rfl,hs2,hB2⟩
 have cS:=Zlg _ _ _ _ w2 (HS1.out.below hB2) hs2 (by rw[Znr];omega) (by rw[Znr];omega)
 have hB3:=bt hB1 hB2
 rw[<-HRR.out] at cS
 clear HRR cT hs2 d2 hB1 hB2
 go_wp2_with fail
 refine cS.mono ?_
 rintro e w3 ⟨rfl,hB4⟩
 have hB5:=bt hB3 hB4
 clear cS hB3 hB4
 cases R with
 | true=>
  go_wp2
  go_ret
  exact⟨rfl,hB5⟩
 | false=>
  go_wp2
  go_ret
  exact⟨rfl,hB5⟩
theorem Z2d{K:Prop}{w:World}{B wb x n:Nat}{F:Nat->Prop}{tv ov hv:Value}{qQ orl:List M.Pk}{qK:Bool}{qJ:List ByteArray}(h:Lw K w B wb x n F tv ov hv qQ orl qK qJ)(A B':Int)(S:ByteArray)(hn:qJ.length<=1000000):
 Calls Tryz.prog 29 #[.pointer (some ⟨wb,0,none⟩),.agg #[.int .i64 6,.int .i64 A,.int .i64 B',.string S]] w (Zh9 K w B wb x n qJ):=by
 generalize hA:w.alloc (.cells #[.int .i64 6,.int .i64 A,.int .i64 B',.string S] 80)=A0
 have hB0:Below w.heap.size w A0:=by rw[<-hA];exact(Below.refl _ w).alloc ler _
 have hb0:A0.heap[w.heap.size]? = some (.cells #[.int .i64 6,.int .i64 A,.int .i64 B',.string S] 80 (0,0)):=by rw[<-hA];exact heap_alloc_new w _
 have o0:A0.cell? ⟨w.heap.size,0,none⟩=some (.int .i64 6):=(cell_of_row A0 _ 0 _ _ (0,0) hb0).trans rfl
 have h0:=h.below hB0
 have hBw:B<=w.heap.size:=by have:=h.lt;have:=h.wB;omega
 obtain⟨c0,-,-,-,-,c5,-⟩:=h0.cells
 obtain⟨v1,w1,hr1,hs1,hB1⟩:=Zep 41 B hv qJ h0.own (by omega)
 obtain⟨ah,ch,eh⟩:=Zac h0.own
 subst eh
 obtain⟨a1,c1,e1⟩:=hs1.form
 subst e1
 have HR:=hid hr1
 have o1:w1.cell? ⟨w.heap.size,0,none⟩=some (.int .i64 6):=(hB1.cell (p:=⟨w.heap.size,0,none⟩) (World.block_lt_of_cell? _ _ o0)).trans o0
 have h1:=h0.below hB1
 have H1:=hid h1
 have hB2:Below w.heap.size w w1:=bt hB0 hB1
 rcases h0.se with ⟨hmb,D,hkD,hlv⟩|⟨hnK,hg⟩
 ·have cL:=hlv.lost
  have cS:=Zo6 h1.blk (hlv.below hB1) h1.tp h1.tog (Zhl h1.tog h1.room h1.n2).1
  rw[decide_eq_true rfl] at cS
  clear hb0 hr1 hs1 h h0 h1 hB0 hlv hB1
  go_enter Tryz.func29,Tryz.ntmps29
  go_wp2_with (first
   | (go_at_call 45;refine cL.mono ?_;rintro e w' ⟨rfl,rfl⟩)
   | (at_builtin;refine Zbr rfl (.const (.slice none 0 0)) (.tmp 66) 41 rfl _ _ _ _ rfl rfl HR.out ?_))
  refine cS.mono ?_
  rintro e w2 ⟨rfl,hB3⟩
  have H2:Hid (Lw K w2 B wb x n F tv ov (.slice ah qJ.length ch) qQ orl qK qJ):=H1.out.below hB3
  have HB:Hid (Below B w w2):=(hB2.mono hBw).trans (hB3.mono (by have:=hB2.size;omega))
  clear cS hB3 cL
  go_wp2
  go_ret
  exact⟨rfl,HB.out,_,_,_,_,_,_,_,H2.out⟩
 ·have cL:=hg.lost
  have H0:=hid h0
  have HB:=hid (hB0.mono hBw)
  clear hb0 hr1 hs1 h h0 h1 hB0 hg hB1 HR
  go_enter Tryz.func29,Tryz.ntmps29
  go_wp2_with (first
   | (go_at_call 45;refine cL.mono ?_;rintro e w' ⟨rfl,rfl⟩))
  go_ret
  exact⟨rfl,HB.out,_,_,_,_,_,_,_,H0.out⟩
theorem Ztp.noText{K:Prop}{W:World}{F:Nat->Prop}{x n:Nat}{qQ orl:List M.Pk}{qK:Bool}(h:Ztp K W F x n qQ orl qK):Zbm F W:=by
 rcases h with ⟨_,D,_,d,s,k,b,qY,hv,sv,lv,h1,h2⟩|⟨_,d,s0,hv,sv,lv,D,h0,h1,h2⟩
 ·exact fun j hj=>h1.noText j ((h2 j).1 hj)
 ·intro j hj
  rcases(h2 j).1 hj with rfl|hj
  ·exact Zbm.one h1.sess (fun s e=>by cases e) (fun a n p e=>by cases e) (by decide) _ rfl
  ·exact h1.disk.noText (by rw[h1.held];exact h1.n1) (by rw[h1.seen];exact h1.n1) j hj
theorem Lw.around{K:Prop}{W W':World}{B wb x n:Nat}{F:Nat->Prop}{tv ov hv:Value}{qQ orl:List M.Pk}{qK:Bool}{qJ:List ByteArray}(h:Lw K W B wb x n F tv ov hv qQ orl qK qJ)(hc:Chg F W W'):
 (Zbc W' tv qQ/\Zjt W' tv qQ)/\(Zbc W' ov orl/\Zjt W' ov orl)/\W'.heap[wb]? = some (.cells (wC x n tv ov qK hv) 78 (0,0))/\W'.ownsRow B 9 1 hv qJ.length (qJ.map Value.string)/\Below B W W':=by
 have ht:=h.se.noText
 have hBW:B<=W.heap.size:=by have:=h.lt;have:=h.wB;omega
 refine⟨⟨h.tp.chg h.tt hc ht (fun p hp=>(h.tog.back p hp).few),h.tt.chg hc ht⟩,⟨h.op.chg h.ot hc ht (fun p hp=>(h.togo.back p hp).few),h.ot.chg hc ht⟩,?_,?_,?_⟩
 ·exact(hc.block _ h.lt (h.se.off h.blk (by decide))).trans h.blk
 ·refine hc.own h.own (fun g hg=>?_)
  by_cases hm:qJ.length=0
  ·rw[h.hz hm] at hg;cases hg
  ·obtain⟨g2,cap,cur,e,hg',_,hb'⟩:=Zc8 h.own (by omega)
   rw[hb'] at hg
   cases hg
   exact h.se.off hg' (by decide)
 ·exact⟨hc.os,hc.tape,hc.output,hc.size,fun j hj=>hc.block j (by omega) (fun e=>by have:=h.FB j e;omega)⟩
theorem Lw.beside{K:Prop}{W W':World}{B wb x n:Nat}{F:Nat->Prop}{tv ov hv:Value}{qQ orl:List M.Pk}{qK:Bool}{qJ:List ByteArray}(h:Lw K W B wb x n F tv ov hv qQ orl qK qJ)(hc:Chg F W W'){j:Nat}{c:Array Value}{t:TypeId}{f:Nat × Nat}(hj:W.heap[j]? = some (.cells c t f))(ht:¬ Ycg t):W'.heap[j]? = some (.cells c t f):=(hc.block _ (ges.1 hj).1 (h.se.off hj ht)).trans hj
theorem Live.cut{w:World}{F:Nat->Prop}{x n:Nat}{D:M.Dk}{l:List M.Pk}(h:Live w F x n D l)(m:Int)(hm:m<=9223372036854775807):
 Calls Tryz.prog 46 #[.pointer (some ⟨x,0,none⟩),.int .i64 m] w fun e w'=>(∃ v,e=.returned v)/\(∃ D',Live w' F x n D' l)/\Chg F w w':=by
 obtain⟨d,s,k,b,qY,hv,sv,lv,h1,h3⟩:=h
 refine(Z8z h1 m hm).mono ?_
 rintro e w' ⟨he,hs,hc⟩
 exact⟨he,⟨_,d,s,k,b,qY,hv,sv,lv,hs,h3⟩,hc.weak (fun j _ e=>(h3 j).2 e)⟩
theorem Gone.cut{w:World}{F:Nat->Prop}{x n:Nat}{Q:List M.Pk->Prop}(h:Gone w F x n Q)(m:Int):
 Calls Tryz.prog 46 #[.pointer (some ⟨x,0,none⟩),.int .i64 m] w fun e w'=>(∃ v,e=.returned v)/\Gone w' F x n Q/\Chg F w w':=by
 obtain⟨d,s0,hv,sv,lv,D,h0,h1,h3⟩:=h
 refine(Zti x d m _ hv sv lv D w h1.sess h1.disk).mono ?_
 rintro e w' ⟨he,hD,hg⟩
 have hc:Chg (fun j=>j=d) w w':=Chg.grown hg (fun j e _=>(Option.some.inj e).symm)
 have hxd:x≠d:=Zfx h1.sess h1.disk.blk (by decide)
 have hcF:Chg F w w':=hc.weak (fun j _ e=>(h3 j).2 (.inr (.inl e)))
 exact⟨he,⟨d,s0,hv,sv,lv,{ D with left:=max m (-1) },h0,{ h1 with ready:=h1.ready.chg hc (fun j e=>by subst e;exact h1.high j (.inr (.inl rfl))),sess:=h1.sess.chg hc hxd,disk:=hD },h3⟩,hcF⟩
theorem Ztp.cut{K:Prop}{w:World}{F:Nat->Prop}{x n:Nat}{qQ orl:List M.Pk}{qK:Bool}(h:Ztp K w F x n qQ orl qK)(m:Int)(hm:m<=9223372036854775807)(hK:¬ K):
 Calls Tryz.prog 46 #[.pointer (some ⟨x,0,none⟩),.int .i64 m] w fun e w'=>(∃ v,e=.returned v)/\Ztp K w' F x n qQ orl qK/\Chg F w w':=by
 rcases h with ⟨hm0,D,_,h⟩|⟨_,h⟩
 ·exact(h.cut m hm).mono fun e w' hp=>⟨hp.1,.inl ⟨hm0,hp.2.1.elim fun D' hD=>⟨D',fun k=>absurd k hK,hD⟩⟩,hp.2.2⟩
 ·exact(h.cut m).mono fun e w' hp=>⟨hp.1,.inr ⟨hK,hp.2.1⟩,hp.2.2⟩
theorem Z7c{K:Prop}{w:World}{B wb x n:Nat}{F:Nat->Prop}{tv ov hv:Value}{qQ orl:List M.Pk}{qK:Bool}{qJ:List ByteArray}(h:Lw K w B wb x n F tv ov hv qQ orl qK qJ)(A B':Int)(S:ByteArray)(hA1:A<=9223372036854775807)(hK:¬ K):
 Calls Tryz.prog 29 #[.pointer (some ⟨wb,0,none⟩),.agg #[.int .i64 10,.int .i64 A,.int .i64 B',.string S]] w (Zh9 K w B wb x n qJ):=by
 generalize hA:w.alloc (.cells #[.int .i64 10,.int .i64 A,.int .i64 B',.string S] 80)=A0
 have hB0:Below w.heap.size w A0:=by rw[<-hA];exact(Below.refl _ w).alloc ler _
 have hb0:A0.heap[w.heap.size]? = some (.cells #[.int .i64 10,.int .i64 A,.int .i64 B',.string S] 80 (0,0)):=by rw[<-hA];exact heap_alloc_new w _
 have o0:A0.cell? ⟨w.heap.size,0,none⟩=some (.int .i64 10):=(cell_of_row A0 _ 0 _ _ (0,0) hb0).trans rfl
 have o1:A0.cell? ⟨w.heap.size,1,none⟩=some (.int .i64 A):=(cell_of_row A0 _ 1 _ _ (0,0) hb0).trans rfl
 have h0:=h.below hB0
 have hBw:B<=w.heap.size:=by have:=h.lt;have:=h.wB;omega
 obtain⟨c0,-,-,-,-,-,-⟩:=h0.cells
 obtain⟨lb,cL⟩:=h0.se.lost
 have cC:=fun wx (hb:Below A0.heap.size A0 wx)=>(h0.below hb).se.cut A hA1 hK
 have hBd:Below A0.heap.size A0 A0.drew:=Zae A0 1
 have H0:=hid h0
 have HB0:=hid (hB0.mono hBw)
 clear hb0 h h0 hB0 hA1 hK
 go_enter Tryz.func29,Tryz.ntmps29
 go_wp2_with (first
  | (go_at_call 45;refine cL.mono ?_;rintro e w' ⟨rfl,rfl⟩))
 go_region_with (go_at_call 46;refine(cC _ hBd).mono ?_;rintro e w1 ⟨⟨v1,rfl⟩,hse,hc⟩)
 all_goals
  have hD:=H0.out.below hBd
  obtain⟨⟨a1,a2⟩,⟨a3,a4⟩,a5,a6,a7⟩:=hD.around hc
  have H1:Hid (Lw K w1 B wb x n F tv ov hv qQ orl qK qJ):=⟨{ hD.toLr with se:=hse,tp:=a1,tt:=a2,op:=a3,ot:=a4 },a5,a6,hD.hz,hD.wB,hD.hi⟩
  have HB1:Hid (Below B w w1):=(HB0.out.trans (hBd.mono (Nat.le_trans hBw HB0.out.size))).trans a7
  clear hse hc a1 a2 a3 a4 a5 a6 a7 hD
  go_wp2
  go_ret
  exact⟨rfl,HB1.out,_,_,_,_,_,_,_,H1.out⟩
end Go.Proofs.YtgnfknjopafngabGreatDoor
