import Derived.Test.YtgnfknjopafngabGreatDoorKaam
set_option maxHeartbeats 4000000
namespace Go.Proofs.YtgnfknjopafngabGreatDoor
open Go.RowKit Go.Maps
def MidRow(w:World)(base:Nat)(v:Value)(xs:List (List UInt8)):Prop:=∃ a cap,v=.slice a xs.length cap/\xs.length<=cap/\cap<=maxLen/\((a=none/\xs=[]/\cap=0) \/
 ∃ g off cur,a=some ⟨g,off,none⟩/\base<=g/\w.heap[g]? = some (.cells cur 9 (0,0))/\off+cap<=cur.size/\∀ j u,(Zaa xs)[j]? = some u->w.cell? ⟨g,off+j,none⟩=some u)
theorem MidRow.own{w:World}{base:Nat}{v:Value}{xs:List (List UInt8)}(h:w.ownsRow base 9 1 v xs.length (Zaa xs)):MidRow w base v xs:=by
 obtain⟨h1,⟨rfl,h0⟩|⟨g,cap,cur,rfl,hb,hg,hnc,hcm,hcs,ht⟩⟩:=h
 ·refine⟨none,0,by rw[h0],by omega,by unfold maxLen;omega,.inl ⟨rfl,List.length_eq_zero_iff.1 h0,rfl⟩⟩
 ·refine⟨_,cap,rfl,hnc,hcm,.inr ⟨g,0,cur,rfl,hb,hg,by omega,fun j u hu=>?_⟩⟩
  rw[cell_of_row w g (0+j) cur _ (0,0) hg,Nat.zero_add]
  rw[<-ht,List.getElem?_take] at hu
  split at hu
  ·simpa using hu
  ·cases hu
theorem three{W:World}{g o i:Nat}{cs:List Value}{y:Value}(hi:i<=cs.length)(hA:∀ t u,t<i->cs[t]? = some u->W.cell? ⟨g,o+t,none⟩=some u)(hB:W.cell? ⟨g,o+i,none⟩=some y)
 (hC:∀ t u,(cs.drop i)[t]? = some u->W.cell? ⟨g,o+(i+1)+t,none⟩=some u):∀ j u,(cs.take i++y :: cs.drop i)[j]? = some u->W.cell? ⟨g,o+j,none⟩=some u:=by
 intro j u hu
 rw[List.getElem?_append,List.length_take,Nat.min_eq_left hi] at hu
 split at hu
 ·rename_i hj
  rw[List.getElem?_take,if_pos hj] at hu
  exact hA j u hj hu
 ·rename_i hj
  by_cases e:j=i
  ·subst e
   rw[Nat.sub_self] at hu
   cases hu
   exact hB
  ·obtain⟨t,ht⟩:∃ t,j=i+1+t:=⟨j-(i+1),by omega⟩
   subst ht
   rw[show i+1+t-i=t+1 by omega,List.getElem?_cons_succ] at hu
   rw[<-Nat.add_assoc]
   exact hC t u hu
theorem Zdo{g:Nat}{e:TypeId}:∀ (vs:List Value) (o:Nat) (w:World) (cur:Array Value),w.heap[g]? = some (.cells cur e (0,0))->∃ cur',(w.setCells g o vs).heap[g]? = some (.cells cur' e (0,0))/\cur'.size=cur.size
 | [],_,_,cur,h=>⟨cur,h,rfl⟩
 | v :: r,o,w,cur,h=>by
  obtain⟨cur',a,b⟩:=Zdo r (o+1) _ _ (heap_setCell_same w g o cur e v h)
  exact⟨cur',a,by rw[b];simp⟩
theorem Zdn{g:Nat}:∀ (vs:List Value) (o:Nat) (w:World),w.grownBy (w.setCells g o vs) (some g)
 | [],_,_=>⟨rfl,rfl,rfl,Nat.le_refl _,fun _ _ _=>rfl⟩
 | v :: r,o,w=>by
  have h1:w.grownBy (w.setCell ⟨g,o,none⟩ v) (some g):=⟨rfl,rfl,rfl,by simp,fun k _ hk=>Below.heap_setCell _ _ _ _ (fun e=>hk (by rw[e]))⟩
  exact Zc7 h1 (Zdn r (o+1) _) (fun k hk=>.inl (Option.some.inj hk).symm)
theorem Zz1(xs:List (List UInt8))(i:Nat)(Y:ByteArray):Zaa (xs.take i++Y.data.toList :: xs.drop i)=(Zaa xs).take i++.string Y :: (Zaa xs).drop i:=by
 unfold Zaa
 rw[List.map_append,List.map_cons,List.map_take,List.map_drop]
 rfl
theorem Z9v(xs:List (List UInt8)):∀ v∈Zaa xs,v.oneCell'=true:=fun v hv=>by
 obtain⟨x,_,rfl⟩:=List.mem_map.1 hv
 rfl
theorem Ycp(xs:List (List UInt8)):(Zaa xs).length=xs.length:=List.length_map _
theorem Zjd(xs:List (List UInt8))(i:Nat)(Y:ByteArray)(h:i<=xs.length):(xs.take i++Y.data.toList :: xs.drop i).length=xs.length+1:=by simp;omega
theorem Z2w(base vb i:Nat)(v:Value)(xs:List (List UInt8))(Y:ByteArray)(w:World)(h:MidRow w base v xs)(hi:i<=xs.length)(hl:xs.length<=1000000000)(hvb:w.heap[vb]? = some (.cells #[.string Y] 9 (0,0)))(hne:v.ownBlock≠some vb)(hbase:base<=w.heap.size):
 Calls Tryz.prog 186 #[v,.int .i64 i,.slice (some ⟨vb,0,none⟩) 1 1] w fun e w'=>∃ v',e=.returned v'/\MidRow w' base v' (xs.take i++Y.data.toList :: xs.drop i)/\w.grownBy w' v.ownBlock/\(v'.ownBlock=v.ownBlock\/v'.ownBlock=some w.heap.size):=by
 obtain⟨a,cap,rfl,hnc,hcm,ha⟩:=h
 have hcm':cap<=9223372036854775807:=by unfold maxLen at hcm;omega
 have hvs:∀ j u,[Value.string Y][j]? = some u->w.cell? ⟨vb,0+j,none⟩=some u:=fun j u hu=>by
  rw[cell_of_row w vb (0+j) _ _ (0,0) hvb]
  simpa using hu
 have h1v:∀ u∈[Value.string Y],u.oneCell'=true:=fun u hu=>by
  simp only[List.mem_singleton] at hu
  subst hu
  rfl
 have hnl:=Ycp xs
 have endGrow:i=xs.length->cap<xs.length+1->(∀ b,a=some b->∀ j u,(Zaa xs)[j]? = some u->w.cell? (b.add j)=some u)->(a=none->xs.length=0)->
  Calls Tryz.prog 186 #[.slice a xs.length cap,.int .i64 i,.slice (some ⟨vb,0,none⟩) 1 1] w fun e w'=>∃ v',e=.returned v'/\MidRow w' base v' (xs.take i++Y.data.toList :: xs.drop i)/\w.grownBy w' (Value.slice a xs.length cap).ownBlock/\(v'.ownBlock=(Value.slice a xs.length cap).ownBlock\/v'.ownBlock=some w.heap.size):=by
  intro hin hroom hcs hnil
  subst hin
  refine(Any2.slices_Insert_string_end_grow Tryz.laysNm222 a xs.length cap vb 0 1 1 (Zaa xs) [.string Y] w (by omega) hnc hroom (by omega) hnl rfl hnil hcs hvs h1v).mono ?_
  rintro e w' ⟨rfl,rfl⟩
  have hge:=grownCap_ge w (xs.length+1) cap 9
  refine⟨_,rfl,⟨some ⟨w.heap.size,0,none⟩,grownCap w (xs.length+1) cap 9,by rw[Zjd _ _ _ ler];rfl,by rw[Zjd _ _ _ ler];exact hge,grownCap_le_maxLen w _ _ _ (by unfold maxLen;omega),.inr ⟨w.heap.size,0,_,rfl,hbase,heap_alloc_new w.drew _,?_,?_⟩⟩,?_,.inr rfl⟩
  ·simp only[Array.size_append,List.size_toArray,size_zeroCells,List.length_append,hnl,List.length_singleton]
   show 0+grownCap w (xs.length+1) cap 9<=xs.length+1+(grownCap w (xs.length+1) cap 9-(xs.length+1))*1
   omega
  ·intro j u hu
   rw[Zz1,List.take_of_length_le (by omega),List.drop_eq_nil_of_le (by omega)] at hu
   rw[cell_of_row _ w.heap.size (0+j) _ _ (0,0) (heap_alloc_new w.drew _),Nat.zero_add]
   have hj:j<(Zaa xs++[Value.string Y]).length:=(List.getElem?_eq_some_iff.1 hu).1
   rw[Array.getElem?_append_left (by simpa using hj)]
   simpa using hu
  ·exact⟨rfl,rfl,rfl,by simp,fun k hk _=>heap_alloc_old (w:=w.drew) (o:=_) (h:=hk)⟩
 obtain⟨rfl,e0,rfl⟩|⟨g,off,cur,rfl,hb,hg,hsz,hcells⟩:=ha
 ·have h0:xs.length=0:=by rw[e0];rfl
  exact endGrow (by omega) (by omega) (fun b hb=>by cases hb) (fun _=>h0)
 ·have hvg:vb≠g:=fun e=>hne (by rw[e];rfl)
  have hsp:∀ j,off+j<cur.size->(w.cell? ⟨g,off+j,none⟩).isSome=true:=fun j hj=>by
   rw[cell_of_row w g (off+j) cur _ (0,0) hg,Array.getElem?_eq_getElem hj]
   rfl
  have hfz:∀ j,w.frozen? ⟨g,j,none⟩=false:=fun j=>frozen_of_row w g j cur _ hg
  by_cases hin:i=xs.length
  ·by_cases hroom:xs.length+1<=cap
   ·subst hin
    refine(Any2.slices_Insert_string_end_room Tryz.laysNm222 g off xs.length cap vb 0 1 1 [.string Y] w (by omega) hroom hcm' rfl (fun j hj=>by rw[Nat.add_assoc];exact hsp _ (by omega)) (fun j hj=>hfz _) hvs h1v).mono ?_
    rintro e w' ⟨rfl,rfl⟩
    obtain⟨cur',hc1,hc2⟩:=Zdo [.string Y] (off+xs.length) w cur hg
    refine⟨_,rfl,⟨_,cap,by rw[Zjd _ _ _ hi],by rw[Zjd _ _ _ hi];exact hroom,hcm,.inr ⟨g,off,cur',rfl,hb,hc1,by omega,?_⟩⟩,Zdn _ _ _,.inl rfl⟩
    rw[Zz1]
    refine three (by omega) (fun t u ht hu=>?_) ?_ (fun t u hu=>?_)
    ·rw[World.cell?_setCells_out g _ _ _ _ (fun _ _=>.inl (by show off+t < _;omega))]
     exact hcells t u hu
    ·exact World.cell?_setCells_in g [.string Y] (off+xs.length) w (fun j hj=>by rw[Nat.add_assoc];exact hsp _ (by simp at hj;omega)) 0 (by simp)
    ·rw[List.drop_eq_nil_of_le (by omega)] at hu
     cases hu
   ·exact endGrow hin (by omega) (fun b hb j u hu=>by
     cases hb
     rw[Addr.add_lit]
     exact hcells j u hu) (fun h=>by cases h)
  ·have hlt:i<xs.length:=by omega
   by_cases hroom:xs.length+1<=cap
   ·refine(Any2.slices_Insert_string_shift Tryz.laysNm222 g off xs.length cap i vb 0 1 1 (Zaa xs) [.string Y] w hlt (by omega) hroom hcm' hvg hnl rfl hcells (fun j hj=>hsp j (by omega)) (fun j hj=>hfz _) hvs (Z9v xs) h1v
     9 9 1 cur.size (by unfold World.shape?;rw[hvb];rfl) (by unfold World.shape?;rw[hg]) (by omega) (frozen_of_row w vb _ _ _ hvb) (frozen_of_row w vb _ _ _ hvb)).mono ?_
    rintro e w' ⟨rfl,rfl⟩
    obtain⟨cur1,hc1,hc2⟩:=Zdo ((Zaa xs).drop i) (off+(i+1)) w.drew cur hg
    obtain⟨cur2,hc3,hc4⟩:=Zdo [.string Y] (off+i) _ cur1 hc1
    have hlen:((Zaa xs).drop i).length=xs.length-i:=by rw[List.length_drop,hnl]
    refine⟨_,rfl,⟨_,cap,by rw[Zjd _ _ _ hi],by rw[Zjd _ _ _ hi];exact hroom,hcm,.inr ⟨g,off,cur2,rfl,hb,hc3,by omega,?_⟩⟩,?_,.inl rfl⟩
    ·rw[Zz1]
     refine three (by omega) (fun t u ht hu=>?_) ?_ (fun t u hu=>?_)
     ·rw[World.cell?_setCells_out g _ _ _ _ (fun _ _=>.inl (by show off+t < _;omega)),World.cell?_setCells_out g _ _ _ _ (fun _ _=>.inl (by show off+t < _;omega))]
      exact hcells t u hu
     ·refine World.cell?_setCells_in g [.string Y] (off+i) _ (fun j hj=>?_) 0 (by simp)
      rw[cell_of_row _ g _ cur1 _ (0,0) hc1,Array.getElem?_eq_getElem (by simp at hj;omega)]
      rfl
     ·have htl:t<((Zaa xs).drop i).length:=(List.getElem?_eq_some_iff.1 hu).1
      rw[World.cell?_setCells_out g _ _ _ _ (fun _ _=>.inr (by show off+i+1<=off+(i+1)+t;omega))]
      have h9:=World.cell?_setCells_in g ((Zaa xs).drop i) (off+(i+1)) w.drew (fun j hj=>by rw[Nat.add_assoc];exact hsp _ (by omega)) t htl
      rw[h9,<-hu,List.getElem?_eq_getElem htl]
    ·have h1:w.grownBy (w.drew.setCells g (off+(i+1)) ((Zaa xs).drop i)) (some g):=by
      have:=Zdn (g:=g) ((Zaa xs).drop i) (off+(i+1)) w.drew
      exact⟨this.os,this.tape,this.output,this.size,this.block⟩
     exact Zc7 h1 (Zdn _ _ _) (fun k hk=>.inl (Option.some.inj hk).symm)
   ·refine(Any2.slices_Insert_string_grow Tryz.laysNm222 g off xs.length cap i vb 0 1 1 (Zaa xs) [.string Y] w hlt (by omega) hnc (by omega) (by omega) hnl rfl hcells hvs (Z9v xs) h1v).mono ?_
    rintro e w' ⟨rfl,rfl⟩
    have hge:=grownCap_ge w (xs.length+1) cap 9
    have hlen:((Zaa xs).drop i).length=xs.length-i:=by rw[List.length_drop,hnl]
    obtain⟨K,hK⟩:∃ K,K=grownCap w (xs.length+1) cap 9:=⟨_,rfl⟩
    have hKm:K<=maxLen:=by rw[hK];exact grownCap_le_maxLen w _ _ _ (by unfold maxLen;omega)
    change ∃ v',Ending.returned (.slice (some ⟨w.heap.size,0,none⟩) (xs.length+1) (grownCap w (xs.length+1) cap 9))=.returned v'/\MidRow ((((w.alloc (.cells (((Zaa xs).take i).toArray++Builtin.zeroCells (Value.string ⟨#[]⟩).cells (xs.length+1-i)++Builtin.zeroCells (Value.string ⟨#[]⟩).cells (grownCap w (xs.length+1) cap 9-(xs.length+1))) 9)).drew.setCells w.heap.size i [.string Y]).drew).setCells w.heap.size (i+1) ((Zaa xs).drop i)) base v' _/\w.grownBy ((((w.alloc (.cells (((Zaa xs).take i).toArray++Builtin.zeroCells (Value.string ⟨#[]⟩).cells (xs.length+1-i)++Builtin.zeroCells (Value.string ⟨#[]⟩).cells (grownCap w (xs.length+1) cap 9-(xs.length+1))) 9)).drew.setCells w.heap.size i [.string Y]).drew).setCells w.heap.size (i+1) ((Zaa xs).drop i)) _/\(v'.ownBlock = _\/v'.ownBlock=some w.heap.size)
    rw[<-hK] at hge ⊢
    obtain⟨cur0,hcur0⟩:∃ c0,c0=((Zaa xs).take i).toArray++Builtin.zeroCells (Value.string ⟨#[]⟩).cells (xs.length+1-i)++Builtin.zeroCells (Value.string ⟨#[]⟩).cells (K-(xs.length+1)):=⟨_,rfl⟩
    have hs0:cur0.size=K:=by
     rw[hcur0]
     simp only[Array.size_append,List.size_toArray,size_zeroCells,List.length_take,hnl]
     show min i xs.length+(xs.length+1-i)*1+(K-(xs.length+1))*1=K
     omega
    have hcell0:∀ t u,t<i->(Zaa xs)[t]? = some u->cur0[t]? = some u:=fun t u ht hu=>by
     rw[hcur0,Array.append_assoc,Array.getElem?_append_left (by simp;omega)]
     simp only[List.getElem?_toArray,List.getElem?_take,if_pos ht]
     exact hu
    rw[<-hcur0]
    generalize hA:(w.alloc (.cells cur0 9)).drew=A1
    have hA1:A1.heap[w.heap.size]? = some (.cells cur0 9 (0,0)):=by rw[<-hA];exact heap_alloc_new w _
    have g1:w.grownBy A1 (some g):=by rw[<-hA];exact⟨rfl,rfl,rfl,by simp,fun k hk _=>heap_alloc_old (w:=w) (o:=_) (h:=hk)⟩
    have hspA:∀ j,j<K->(A1.cell? ⟨w.heap.size,j,none⟩).isSome=true:=fun j hj=>by
     rw[cell_of_row _ _ _ _ _ (0,0) hA1,Array.getElem?_eq_getElem (by omega)]
     rfl
    obtain⟨cur1,hc1,hc2⟩:=Zdo [.string Y] i A1 cur0 hA1
    obtain⟨cur2,hc3,hc4⟩:=Zdo ((Zaa xs).drop i) (i+1) (A1.setCells w.heap.size i [.string Y]).drew cur1 hc1
    refine⟨_,rfl,⟨_,K,by rw[Zjd _ _ _ hi],by rw[Zjd _ _ _ hi];exact hge,hKm,.inr ⟨w.heap.size,0,cur2,rfl,hbase,hc3,by omega,?_⟩⟩,?_,.inr rfl⟩
    ·rw[Zz1]
     refine three (by omega) (fun t u ht hu=>?_) ?_ (fun t u hu=>?_)
     ·rw[World.cell?_setCells_out _ _ _ _ _ (fun _ _=>.inl (by show 0+t < _;omega))]
      show (A1.setCells w.heap.size i [.string Y]).cell? _ = _
      rw[World.cell?_setCells_out _ _ _ _ _ (fun _ _=>.inl (by show 0+t < _;omega)),cell_of_row _ _ _ _ _ (0,0) hA1,Nat.zero_add]
      exact hcell0 t u ht hu
     ·rw[World.cell?_setCells_out _ _ _ _ _ (fun _ _=>.inl (by show 0+i < _;omega))]
      show (A1.setCells w.heap.size i [.string Y]).cell? _ = _
      rw[Nat.zero_add]
      exact World.cell?_setCells_in w.heap.size [.string Y] i A1 (fun j hj=>hspA _ (by simp at hj;omega)) 0 (by simp)
     ·have htl:t<((Zaa xs).drop i).length:=(List.getElem?_eq_some_iff.1 hu).1
      rw[Nat.zero_add]
      have h9:=World.cell?_setCells_in w.heap.size ((Zaa xs).drop i) (i+1) (A1.setCells w.heap.size i [.string Y]).drew (fun j hj=>by
       show ((A1.setCells w.heap.size i [.string Y]).cell? _).isSome=true
       rw[cell_of_row _ _ _ cur1 _ (0,0) hc1,Array.getElem?_eq_getElem (by omega)]
       rfl) t htl
      rw[h9,<-hu,List.getElem?_eq_getElem htl]
    ·have h1:=Zc7 g1 (Zdn (g:=w.heap.size) [.string Y] i A1) (fun k hk=>.inr (by cases hk;exact Nat.le_refl _))
     have h2:=Zdn (g:=w.heap.size) ((Zaa xs).drop i) (i+1) (A1.setCells w.heap.size i [.string Y]).drew
     exact Zc7 h1 ⟨h2.os,h2.tape,h2.output,h2.size,h2.block⟩ (fun k hk=>.inr (by cases hk;exact Nat.le_refl _))
end Go.Proofs.YtgnfknjopafngabGreatDoor
namespace Go.Proofs.YtgnfknjopafngabGreatDoor
open M
structure Zo4 (qQ qZ left:List Pk) (done ready:List (List UInt8)) (c:List UInt8->Nat):Prop where
 sub:∀ p∈left,p∈qZ
 apart:Apart qZ
 aleft:Apart left
 named:∀ p∈qZ,p.name≠[]
 gone:∀ p∈qZ,p ∉ left->c p.name=0/\∀ q∈left,Zck p q qQ=false
 cnt:∀ p∈left,c p.name=Zlo left qQ p
 rising:Zcj ready
 free:∀ x,x∈ready↔∃ p∈left,Z8l left qQ p/\x=p.name
 order:Zb2 qQ qZ.length qZ []=Zb2 qQ left.length left done
def Zd4(ys r:List (List UInt8)):List (List UInt8):=ys.foldl (fun r y=>Zwl y r) r
theorem Zrn(x:List UInt8):∀ (ys r:List (List UInt8)),x∈Zd4 ys r↔x∈ys\/x∈r
 | [],r=>by simp[Zd4]
 | y :: ys,r=>by
  have:=Zrn x ys (Zwl y r)
  unfold Zd4 at this ⊢
  rw[List.foldl_cons,this,Ztu,List.mem_cons]
  constructor
  ·rintro (h|h|h)
   ·exact .inl (.inr h)
   ·exact .inl (.inl h)
   ·exact .inr h
  ·rintro ((h|h)|h)
   ·exact .inr (.inl h)
   ·exact .inl h
   ·exact .inr (.inr h)
theorem Zhs:∀ (ys r:List (List UInt8)),Zcj r->ys.Nodup->(∀ y∈ys,y ∉ r)->Zcj (Zd4 ys r)
 | [],_,hr,_,_=>hr
 | y :: ys,r,hr,hn,hd=>by
  have hn':=List.nodup_cons.1 hn
  refine Zhs ys (Zwl y r) (Zrs y r hr (hd y (by simp))) hn'.2 (fun z hz h=>?_)
  rcases(Ztu y z r).1 h with rfl|h
  ·exact hn'.1 hz
  ·exact hd z (by simp[hz]) h
theorem Zo4.start{qQ qZ:List Pk}{ready:List (List UInt8)}{c:List UInt8->Nat}(ha:Apart qZ)(hn:∀ p∈qZ,p.name≠[])(hc:∀ p∈qZ,c p.name=Zlo qZ qQ p)(hr:Zcj ready)
 (hf:∀ x,x∈ready↔∃ p∈qZ,Z8l qZ qQ p/\x=p.name):Zo4 qQ qZ qZ [] ready c:=
 ⟨fun _ h=>h,ha,ha,hn,fun _ hp h=>absurd hp h,hc,hr,hf,rfl⟩
theorem Zo4.step{qQ qZ left:List Pk}{done r:List (List UInt8)}{n:List UInt8}{c:List UInt8->Nat}{B:List (List UInt8)}(h:Zo4 qQ qZ left done (n :: r) c)(hnd:B.Nodup)
 (hB:∀ x,x∈B↔∃ p∈qZ,∃ q∈qZ,p.name=x/\q.name=n/\Zck p q qQ=true):
 (∀ x∈B,1<=c x)/\Zo4 qQ qZ (left.filter fun p=>p.name != n) (done++[n]) (Zd4 (Zcm c B) r) (Zez c B):=by
 obtain⟨q,hq,hqf,hqn⟩:=(h.free n).1 (by simp)
 have hqF:=h.sub q hq
 have hr':=List.pairwise_cons.1 h.rising
 have hnr:n ∉ r:=(List.nodup_cons.1 h.rising.nodup).1
 have hB':∀ p∈qZ,p.name∈B↔Zck p q qQ=true:=fun p hp=>by
  rw[hB]
  constructor
  ·rintro ⟨p',hp',q',hq',e1,e2,e3⟩
   have ep:=h.apart.eq hp' hp e1
   have eq:=h.apart.eq hq' hqF (by rw[e2,hqn])
   rw[<-ep,<-eq]
   exact e3
  ·intro hw
   exact⟨p,hp,q,hqF,rfl,hqn.symm,hw⟩
 have hBl:∀ x∈B,∃ p∈left,p.name=x/\Zck p q qQ=true:=fun x hx=>by
  obtain⟨p,hp,q',hq',e1,e2,e3⟩:=(hB x).1 hx
  have eq:=h.apart.eq hq' hqF (by rw[e2,hqn])
  subst eq
  refine⟨p,?_,e1,e3⟩
  exact Classical.byContradiction (fun hpl=>by
   have:=(h.gone p hp hpl).2 q' hq
   rw[this] at e3
   cases e3)
 have hless:∀ p,Zlo left qQ p=Zlo (left.filter fun p=>p.name != n) qQ p+(if Zck p q qQ=true then 1 else 0):=fun p=>by rw[Z3b h.aleft hq p,<-hqn]
 have hmem:∀ p,p∈left.filter (fun p=>p.name != n)↔p∈left/\p.name≠n:=fun p=>by rw[List.mem_filter];simp
 have hB1:∀ x∈B,1<=c x:=fun x hx=>by
  obtain⟨p,hp,rfl,hw⟩:=hBl x hx
  rw[h.cnt p hp,hless p,if_pos hw]
  omega
 have hcq:c n=0:=by rw[hqn,h.cnt q hq];exact Zd8.2 hqf
 have hnB:n ∉ B:=fun hh=>by have:=hB1 n hh;omega
 have hcnt':∀ p∈left,Zez c B p.name=Zlo (left.filter fun p=>p.name != n) qQ p:=fun p hp=>by
  have h1:=hless p
  have h2:=h.cnt p hp
  unfold Zez
  by_cases hw:Zck p q qQ=true
  ·rw[if_pos ((hB' p (h.sub p hp)).2 hw),h2,h1,if_pos hw]
   omega
  ·rw[if_neg (fun hh=>hw ((hB' p (h.sub p hp)).1 hh)),h2,h1,if_neg hw]
   omega
 have hready:Ze7 left qQ=n:=Zcj.min h.rising (Zuu qQ (fun p hp=>h.named p (h.sub p hp))) h.free
 have hnn:n≠[]:=by rw[hqn];exact h.named q hqF
 refine⟨hB1,⟨fun p hp=>h.sub p ((hmem p).1 hp).1,h.apart,h.aleft.filter _,h.named,fun p hp hpl=>?_,fun p hp=>hcnt' p ((hmem p).1 hp).1,?_,fun x=>?_,?_⟩⟩
 ·by_cases hl:p∈left
  ·have hpn:p.name=n:=Decidable.byContradiction (fun hne=>hpl ((hmem p).2 ⟨hl,hne⟩))
   have ep:=h.aleft.eq hl hq (by rw[hpn,hqn])
   subst ep
   refine⟨?_,fun q' hq'=>hqf q' ((hmem q').1 hq').1⟩
   unfold Zez
   rw[hpn,if_neg hnB]
   exact hcq
  ·obtain⟨h1,h2⟩:=h.gone p hp hl
   refine⟨?_,fun q' hq'=>h2 q' ((hmem q').1 hq').1⟩
   unfold Zez
   split <;> omega
 ·refine Zhs _ _ hr'.2 (hnd.filter _) (fun y hy hyr=>?_)
  unfold Zcm at hy
  rw[List.mem_filter] at hy
  obtain⟨p,hp,hpf,rfl⟩:=(h.free y).1 (by simp[hyr])
  have h1:=h.cnt p hp
  rw[Zd8.2 hpf] at h1
  have h2:=hy.2
  rw[h1] at h2
  simp at h2
 ·rw[Zrn]
  constructor
  ·rintro (hx|hx)
   ·unfold Zcm at hx
    rw[List.mem_filter] at hx
    obtain⟨p,hp,rfl,hw⟩:=hBl x hx.1
    have hne:p.name≠n:=fun e=>hnB (by rw[<-e];exact hx.1)
    refine⟨p,(hmem p).2 ⟨hp,hne⟩,Zd8.1 ?_,rfl⟩
    have h1:=hless p
    have h2:=h.cnt p hp
    have h3:c p.name=1:=by simpa using hx.2
    rw[if_pos hw] at h1
    omega
   ·obtain⟨p,hp,hpf,rfl⟩:=(h.free x).1 (by simp[hx])
    have hne:p.name≠n:=fun e=>hnr (by rw[<-e];exact hx)
    exact⟨p,(hmem p).2 ⟨hp,hne⟩,fun q' hq'=>hpf q' ((hmem q').1 hq').1,rfl⟩
  ·rintro ⟨p,hp,hpf,rfl⟩
   obtain⟨hp,hne⟩:=(hmem p).1 hp
   have h1:=hless p
   rw[Zd8.2 hpf] at h1
   by_cases hw:Zck p q qQ=true
   ·left
    unfold Zcm
    rw[List.mem_filter]
    refine⟨(hB' p (h.sub p hp)).2 hw,?_⟩
    rw[if_pos hw] at h1
    rw[h.cnt p hp,h1]
    rfl
   ·right
    rw[if_neg hw] at h1
    have:=(h.free p.name).2 ⟨p,hp,Zd8.1 (by omega),rfl⟩
    rcases List.mem_cons.1 this with e|e
    ·exact absurd e hne
    ·exact e
 ·rw[h.order]
  exact Z06 h.aleft hready hnn
theorem Zo4.stop{qQ qZ left:List Pk}{done:List (List UInt8)}{c:List UInt8->Nat}(h:Zo4 qQ qZ left done [] c):
 Zb2 qQ qZ.length qZ []=(done,left)/\∀ p∈qZ,0<c p.name↔p∈left:=by
 have hready:Ze7 left qQ=[]:=Zcj.none (Zuu qQ (fun p hp=>h.named p (h.sub p hp))) (fun x hx=>by
  have:=(h.free x).2 hx
  cases this)
 refine⟨?_,fun p hp=>?_⟩
 ·rw[h.order]
  cases hl:left.length with
  | zero=>rfl
  | succ k=>
   unfold Zb2
   rw[if_pos hready]
 ·constructor
  ·intro hc
   exact Classical.byContradiction (fun hl=>by have:=(h.gone p hp hl).1;omega)
  ·intro hl
   rw[h.cnt p hl]
   exact Nat.pos_of_ne_zero (fun e=>by
    have:=(h.free p.name).2 ⟨p,hl,Zd8.1 e,rfl⟩
    cases this)
theorem Z61{E:List (List UInt8 × List UInt8)}(h:E.Nodup)(x:List UInt8):((E.filter fun e=>e.2 == x).map Prod.fst).Nodup:=by
 unfold List.Nodup
 rw[List.pairwise_map]
 refine(h.filter _).imp_of_mem (fun {a b} ha hb hab e=>hab ?_)
 have h1:a.2=x:=by simpa using (List.mem_filter.1 ha).2
 have h2:b.2=x:=by simpa using (List.mem_filter.1 hb).2
 exact Prod.ext e (h1.trans h2.symm)
theorem Z3v{E:List (List UInt8 × List UInt8)}(h:E.Nodup)(x:List UInt8):((E.filter fun e=>e.1 == x).map Prod.snd).Nodup:=by
 unfold List.Nodup
 rw[List.pairwise_map]
 refine(h.filter _).imp_of_mem (fun {a b} ha hb hab e=>hab ?_)
 have h1:a.1=x:=by simpa using (List.mem_filter.1 ha).2
 have h2:b.1=x:=by simpa using (List.mem_filter.1 hb).2
 exact Prod.ext (h1.trans h2.symm) e
theorem row_nodup{E:List (List UInt8 × List UInt8)}(h:E.Nodup)(x:List UInt8):(Zly E x).Nodup:=Z61 h x
theorem Ybz{qQ qZ:List Pk}{E:List (List UInt8 × List UInt8)}(h:∀ e,e∈E↔Zvh qQ qZ e)(n x:List UInt8):x∈Zly E n↔∃ p∈qZ,∃ q∈qZ,p.name=x/\q.name=n/\Zck p q qQ=true:=by
 refine Iff.trans ?_ (h (x,n))
 unfold Zly
 rw[List.mem_map]
 constructor
 ·rintro ⟨e,he,rfl⟩
  obtain⟨h1,h2⟩:=List.mem_filter.1 he
  have:e.2=n:=by simpa using h2
  subst this
  exact h1
 ·intro he
  exact⟨(x,n),List.mem_filter.2 ⟨he,by simp⟩,rfl⟩
theorem Ycj{qQ qZ:List Pk}{E:List (List UInt8 × List UInt8)}(hn:E.Nodup)(h:∀ e,e∈E↔Zvh qQ qZ e)(ha:Apart qZ){p:Pk}(hp:p∈qZ):Zh4 E p.name=Zlo qZ qQ p:=by
 have hm:∀ x,x∈(E.filter fun e=>e.1 == p.name).map Prod.snd↔x∈(qZ.filter fun q=>Zck p q qQ).map Pk.name:=fun x=>by
  rw[List.mem_map,List.mem_map]
  constructor
  ·rintro ⟨e,he,rfl⟩
   obtain⟨h1,h2⟩:=List.mem_filter.1 he
   have h2:e.1=p.name:=by simpa using h2
   obtain⟨p',hp',q,hq,e1,e2,e3⟩:=(h e).1 h1
   have ep:=ha.eq hp' hp (by rw[e1,h2])
   subst ep
   exact⟨q,List.mem_filter.2 ⟨hq,e3⟩,e2⟩
  ·rintro ⟨q,hq,rfl⟩
   obtain⟨h1,h2⟩:=List.mem_filter.1 hq
   exact⟨(p.name,q.name),List.mem_filter.2 ⟨(h _).2 ⟨p,hp,q,h1,rfl,rfl,h2⟩,by simp⟩,rfl⟩
 have n1:=Z3v hn p.name
 have n2:((qZ.filter fun q=>Zck p q qQ).map Pk.name).Nodup:=(ha.filter fun q=>Zck p q qQ)
 have l1:=Zlq n1 (fun x hx=>(hm x).1 hx)
 have l2:=Zlq n2 (fun x hx=>(hm x).2 hx)
 rw[List.length_map,List.length_map] at l1 l2
 unfold Zh4 Zlo
 omega
theorem Zyj{qQ qZ:List Pk}{qG:List (List UInt8)}{c:List UInt8->Nat}(hr:Zcj qG)(hm:∀ x,x∈qG↔∃ p∈qZ,p.name=x)(hc:∀ p∈qZ,c p.name=Zlo qZ qQ p):
 Zcj (Zd1 c qG)/\∀ x,x∈Zd1 c qG↔∃ p∈qZ,Z8l qZ qQ p/\x=p.name:=by
 refine⟨List.Pairwise.filter _ hr,fun x=>?_⟩
 unfold Zd1
 rw[List.mem_filter,hm]
 constructor
 ·rintro ⟨⟨p,hp,rfl⟩,h0⟩
  have h0:c p.name=0:=by simpa using h0
  exact⟨p,hp,Zd8.1 (by rw[<-hc p hp];exact h0),rfl⟩
 ·rintro ⟨p,hp,hf,rfl⟩
  refine⟨⟨p,hp,rfl⟩,?_⟩
  rw[hc p hp,Zd8.2 hf]
  rfl
end Go.Proofs.YtgnfknjopafngabGreatDoor
namespace Go.Proofs.YtgnfknjopafngabGreatDoor
open Go.RowKit Go.Maps
theorem Z3k(base:Nat)(v:Value)(xs:List (List UInt8))(w:World)(h:w.ownsRow base 9 1 v xs.length (Zaa xs))(hl:xs.length<=1000000000):
 Calls Tryz.prog 182 #[v] w fun e w'=>∃ v',e=.returned v'/\w'.ownsRow w.heap.size 9 1 v' xs.length (Zaa xs)/\Below w.heap.size w w':=by
 obtain⟨h1,⟨rfl,h0⟩|⟨g,cap,cur,rfl,hb,hg,hnc,hcm,hcs,ht⟩⟩:=h
 ·refine(Tryz.slices_Clone_string_nil 0 0 w).mono ?_
  rintro e w' ⟨rfl,rfl⟩
  refine⟨_,rfl,?_,Below.refl _ _⟩
  rw[List.length_eq_zero_iff.1 h0]
  exact World.ownsRow_nil _ _ _ _
 ·have hz:(xs.map fun x=>(⟨x.toArray⟩:ByteArray)).length=xs.length:=List.length_map _
  refine(Tryz.slices_Clone_string g 0 xs.length cap (xs.map fun x=>(⟨x.toArray⟩:ByteArray)) w (by omega) (by omega) (fun j hj=>?_)).mono ?_
  ·rw[hz] at hj
   rw[cell_of_row w g (0+j) cur _ (0,0) hg,Nat.zero_add]
   have h2:(Zaa xs)[j]? = some (.string ⟨xs[j].toArray⟩):=Zl9 hj
   rw[<-ht,List.getElem?_take,if_pos (by omega)] at h2
   rw[List.getD_eq_getElem?_getD,List.getElem?_map,List.getElem?_eq_getElem hj]
   simpa using h2
  ·rintro e w' ⟨v',rfl,r1,_,r2⟩
   refine⟨v',rfl,?_,r2⟩
   rw[List.take_of_length_le (by omega),List.map_map] at r1
   exact r1
end Go.Proofs.YtgnfknjopafngabGreatDoor
namespace Go.Proofs.YtgnfknjopafngabGreatDoor
open M
theorem Zo4.all{qQ qZ left:List Pk}{done qG:List (List UInt8)}{c:List UInt8->Nat}(h:Zo4 qQ qZ left done [] c)(hm:∀ x,x∈qG↔∃ p∈qZ,p.name=x)(h0:∀ x∈qG,c x=0):
 Zb2 qQ qZ.length qZ []=(done,[]):=by
 obtain⟨h1,h2⟩:=h.stop
 have e:left=[]:=List.eq_nil_iff_forall_not_mem.2 (fun p hp=>by
  have k1:=(h2 p (h.sub p hp)).2 hp
  have k2:=h0 p.name ((hm _).2 ⟨p,h.sub p hp,rfl⟩)
  omega)
 rw[h1,e]
theorem Zo4.stuck{qQ qZ left:List Pk}{done qG:List (List UInt8)}{c:List UInt8->Nat}(h:Zo4 qQ qZ left done [] c)(hm:∀ x,x∈qG↔∃ p∈qZ,p.name=x)(hr:Zcj qG)(j:Nat)(hj:j<qG.length)
 (hc:0<c qG[j]) (hb:∀ k (hk:k<j),c qG[k]=0):Zfe (Zb2 qQ qZ.length qZ []).2=qG[j]/\qG[j]≠[]:=by
 obtain⟨h1,h2⟩:=h.stop
 have hmin:=Zod (l:=left) (fun p hp=>h.named p (h.sub p hp))
 obtain⟨p,hp,hpn⟩:=(hm qG[j]).1 (List.getElem_mem hj)
 have hpl:p∈left:=(h2 p hp).1 (by rw[hpn];exact hc)
 refine⟨?_,by rw[<-hpn];exact h.named p hp⟩
 rw[h1]
 refine hmin.unique ⟨hmin.1,.inr ⟨⟨p,hpl,hpn.symm⟩,?_⟩⟩
 rintro x ⟨q,hq,rfl⟩
 have hqc:=(h2 q (h.sub q hq)).2 hq
 obtain⟨k,hk,e⟩:=List.getElem_of_mem ((hm q.name).2 ⟨q,h.sub q hq,rfl⟩)
 rw[<-e] at hqc ⊢
 rcases Nat.lt_trichotomy k j with hlt|rfl|hlt
 ·have:=hb k hlt
  omega
 ·exact Zbt _
 ·exact Zet (List.pairwise_iff_getElem.1 hr j k hj hk hlt)
def Zix(qQ qZ:List Pk):Sum Fa (List (List UInt8)):=
 if Zfe (Zb2 qQ qZ.length qZ []).2≠[] then .inl ⟨7,0,0,Zfe (Zb2 qQ qZ.length qZ []).2⟩ else .inr (Zb2 qQ qZ.length qZ []).1
theorem Z2c{qQ qZ:List Pk}{done:List (List UInt8)}(h:Zb2 qQ qZ.length qZ []=(done,[])):Zix qQ qZ=.inr done:=by
 unfold Zix
 rw[h]
 rfl
theorem Zv7{qQ qZ:List Pk}{n:List UInt8}(h:Zfe (Zb2 qQ qZ.length qZ []).2=n)(hn:n≠[]):Zix qQ qZ=.inl ⟨7,0,0,n⟩:=by
 unfold Zix
 rw[h,if_pos hn]
theorem Z16{qZ:List Pk}(x:List UInt8):x∈Zdc (qZ.map Pk.name)↔∃ p∈qZ,p.name=x:=by
 rw[(Zbh _).mem_iff,List.mem_map]
end Go.Proofs.YtgnfknjopafngabGreatDoor
namespace Go.Proofs.YtgnfknjopafngabGreatDoor
open Go.RowKit Go.Maps M
theorem Zfm{A B C:World}{row row':Option Nat}(h:A.grownBy B row)(k:B.grownBy C row')(hr:∀ j,row'=some j->row=some j\/A.heap.size<=j):A.grownBy C row:=
 ⟨k.os.trans h.os,k.tape.trans h.tape,k.output.trans h.output,Nat.le_trans h.size k.size,fun j hj hne=>(k.block j (Nat.lt_of_lt_of_le hj h.size) (fun e=>by
  rcases hr j e.symm with e1|e1
  ·exact hne e1.symm
  ·omega)).trans (h.block j hj hne)⟩
theorem Z21(w:World)(row:Option Nat):w.grownBy w row:=⟨rfl,rfl,rfl,Nat.le_refl _,fun _ _ _=>rfl⟩
theorem MidRow.kept{w w':World}{base:Nat}{v:Value}{xs:List (List UInt8)}{row:Option Nat}(h:MidRow w base v xs)(hg:w.grownBy w' row)(hne:∀ g,v.ownBlock=some g->row≠some g):MidRow w' base v xs:=by
 obtain⟨a,cap,rfl,h1,h2,h3⟩:=h
 refine⟨a,cap,rfl,h1,h2,h3.imp id ?_⟩
 rintro ⟨g,off,cur,rfl,hb,hc,hs,hx⟩
 have hlt:=(Array.getElem?_eq_some_iff.1 hc).1
 have e:=hg.block g hlt (fun e=>hne g rfl e.symm)
 exact⟨g,off,cur,rfl,hb,e.trans hc,hs,fun j u hu=>(World.cell?_of_block (a:=⟨g,off+j,none⟩) e).trans (hx j u hu)⟩
theorem MidRow.lt{w:World}{base:Nat}{v:Value}{xs:List (List UInt8)}(h:MidRow w base v xs):∀ g,v.ownBlock=some g->base<=g/\g<w.heap.size:=by
 obtain⟨a,cap,rfl,h1,h2,⟨rfl,_⟩|⟨g,off,cur,rfl,hb,hc,hs,hx⟩⟩:=h
 ·intro g h
  cases h
 ·intro g' h
  cases h
  exact⟨hb,(Array.getElem?_eq_some_iff.1 hc).1⟩
theorem MidRow.head{w:World}{base:Nat}{v:Value}{n:List UInt8}{r:List (List UInt8)}(h:MidRow w base v (n :: r)):
 ∃ g off cap,v=.slice (some ⟨g,off,none⟩) (r.length+1) cap/\r.length+1<=cap/\cap<=maxLen/\w.cell? ⟨g,off,none⟩=some (.string ⟨n.toArray⟩):=by
 obtain⟨a,cap,rfl,h1,h2,⟨_,h0,_⟩|⟨g,off,cur,rfl,hb,hc,hs,hx⟩⟩:=h
 ·cases h0
 ·exact⟨g,off,cap,rfl,h1,h2,hx 0 _ rfl⟩
theorem MidRow.tail{w:World}{base g off cap:Nat}{a':Option Addr}{n:List UInt8}{r:List (List UInt8)}(h:MidRow w base (.slice (some ⟨g,off,none⟩) (r.length+1) cap) (n :: r))(ha:a'=some ⟨g,off+1,none⟩\/(a'=some ⟨g,off,none⟩/\cap=1)):
 MidRow w base (.slice a' r.length (cap-1)) r/\(Value.slice a' r.length (cap-1)).ownBlock=some g:=by
 obtain⟨a,c,e,h1,h2,h3⟩:=h
 injection e with e1 e2 e3
 subst e1 e3
 obtain⟨h0,_⟩|⟨g',off',cur,e,hb,hc,hs,hx⟩:=h3
 ·cases h0
 ·injection e with e
  injection e with e1 e2
  subst e1 e2
  simp only[List.length_cons] at h1
  obtain rfl|⟨rfl,rfl⟩:=ha
  ·refine⟨⟨_,cap-1,rfl,by omega,by omega,.inr ⟨g,off+1,cur,rfl,hb,hc,by omega,fun j u hu=>?_⟩⟩,rfl⟩
   have h9:=hx (j+1) u hu
   rw[show off+(j+1)=off+1+j by omega] at h9
   exact h9
  ·have h0:r=[]:=List.length_eq_zero_iff.1 (by omega)
   subst h0
   refine⟨⟨_,0,rfl,Nat.le_refl _,by omega,.inr ⟨g,off,cur,rfl,hb,hc,by omega,fun j u hu=>?_⟩⟩,rfl⟩
   simp[Zaa] at hu
theorem Zxs{ys r:List (List UInt8)}{j:Nat}(hj:j<ys.length):Zd4 (ys.take (j+1)) r=Zwl ys[j] (Zd4 (ys.take j) r):=by
 unfold Zd4
 rw[List.take_succ_eq_append_getElem hj,List.foldl_append]
 rfl
theorem Zht:∀ (ys r:List (List UInt8)),(Zd4 ys r).length=ys.length+r.length
 | [],r=>by simp[Zd4]
 | y :: ys,r=>by
  have:=Zht ys (Zwl y r)
  unfold Zd4 at this ⊢
  rw[List.foldl_cons,this,Zqu,List.length_cons]
  omega
theorem Zo4.ready_len{qQ qZ left:List Pk}{done ready:List (List UInt8)}{c:List UInt8->Nat}(h:Zo4 qQ qZ left done ready c):ready.length<=left.length:=by
 have:=Zlq (k:=left.map Pk.name) h.rising.nodup (fun x hx=>by
  obtain⟨p,hp,_,rfl⟩:=(h.free x).1 hx
  exact List.mem_map.2 ⟨p,hp,rfl⟩)
 rwa [List.length_map] at this
theorem Zo4.cnt_le{qQ qZ left:List Pk}{done ready:List (List UInt8)}{c:List UInt8->Nat}(h:Zo4 qQ qZ left done ready c){p:Pk}(hp:p∈qZ):c p.name<=left.length:=by
 by_cases hl:p∈left
 ·rw[h.cnt p hl]
  exact List.length_filter_le _ _
 ·rw[(h.gone p hp hl).1]
  omega
theorem Zo4.less{qQ qZ left:List Pk}{done r:List (List UInt8)}{n:List UInt8}{c:List UInt8->Nat}(h:Zo4 qQ qZ left done (n :: r) c):(left.filter fun p=>p.name != n).length<left.length:=by
 obtain⟨q,hq,_,hqn⟩:=(h.free n).1 (by simp)
 rw[List.length_filter_lt_length_iff_exists]
 exact⟨q,hq,by simp[hqn]⟩
theorem Zo4.mid{qQ qZ left:List Pk}{done r:List (List UInt8)}{n:List UInt8}{c:List UInt8->Nat}{B:List (List UInt8)}(h:Zo4 qQ qZ left done (n :: r) c)(hnd:B.Nodup)(j:Nat):
 Zcj (Zd4 ((Zcm c B).take j) r):=by
 have hr':=List.pairwise_cons.1 h.rising
 refine Zhs _ _ hr'.2 (List.Nodup.sublist (List.take_sublist j _) (hnd.filter _)) (fun y hy hyr=>?_)
 have hy:=List.mem_of_mem_take hy
 unfold Zcm at hy
 rw[List.mem_filter] at hy
 obtain⟨p,hp,hpf,rfl⟩:=(h.free y).1 (by simp[hyr])
 have h1:=h.cnt p hp
 rw[Zd8.2 hpf] at h1
 have h2:=hy.2
 rw[h1] at h2
 simp at h2
theorem Zwf:Tryz.prog.underlying 41=some (.slice (Tryz.prog.elem 41)):=by kernel_rfl
theorem Zwh(w:World):(sizeOf (Tryz.prog.elem 41)).run Tryz.prog w=.ok 1 w:=by
 have h:(Tryz.prog.info? (Tryz.prog.elem 41)).map (fun i=>i.size)=some 1:=by kernel_rfl
 obtain⟨i,hi,e⟩:=Option.map_eq_some_iff.1 h
 simp[sizeOf,typeInfo,hi,e]
theorem Z0z(g off n c:Nat):∃ a',(a'=some ⟨g,off+1,none⟩\/(a'=some ⟨g,off,none⟩/\c=1))/\∀ w,(Instr.slice 41 (.slice (some ⟨g,off,none⟩) (n+1) c) (some (.int .i64 1)) none none).run Tryz.prog w=.ok (.slice a' n (c-1)) w:=by
 by_cases h:c=1
 ·refine⟨some ⟨g,off,none⟩,.inr ⟨rfl,h⟩,fun w=>?_⟩
  rw[run_slice_l w _ _ _ _ Zwf _ _ (by omega) (by omega),Zwh]
  simp[Result.andThen,sliced,h]
 ·refine⟨some ⟨g,off+1,none⟩,.inl rfl,fun w=>?_⟩
  rw[run_slice_l w _ _ _ _ Zwf _ _ (by omega) (by omega),Zwh]
  simp[Result.andThen,sliced,h,Addr.add_lit]
def lenV:Value->Nat
 | .slice _ n _=>n
 | _=>0
end Go.Proofs.YtgnfknjopafngabGreatDoor
