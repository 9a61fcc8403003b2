import Derived.Test.YtgnfknjopafngabGreatDoorKnac
set_option maxHeartbeats 4000000
namespace Go.Proofs.YtgnfknjopafngabGreatDoor
open Go.RowKit Go.Maps
def MidRow(w:World)(base:Nat)(v:Value)(xs:List (List UInt8)):Prop:=∃ a cap,v=.slice a xs.length cap/\xs.length<=cap/\cap<=maxLen/\((a=none/\xs=[]/\cap=0) \/
 ∃ g off cur,a=some ⟨g,off,none⟩/\base<=g/\w.heap[g]? = some (.cells cur 9 (0,0))/\off+cap<=cur.size/\∀ j u,(nmCells xs)[j]? = some u->w.cell? ⟨g,off+j,none⟩=some u)
theorem MidRow.own{w:World}{base:Nat}{v:Value}{xs:List (List UInt8)}(h:w.ownsRow base 9 1 v xs.length (nmCells xs)):MidRow w base v xs:=by
 obtain⟨h1,⟨rfl,h0⟩|⟨g,cap,cur,rfl,hb,hg,hnc,hcm,hcs,ht⟩⟩:=h
 ·refine⟨none,0,by rw[h0],by omega,by unfold maxLen;omega,.inl ⟨rfl,List.length_eq_zero_iff.1 h0,rfl⟩⟩
 ·refine⟨_,cap,rfl,hnc,hcm,.inr ⟨g,0,cur,rfl,hb,hg,by omega,fun j u hu=>?_⟩⟩
  rw[cell_of_row w g (0+j) cur _ (0,0) hg,Nat.zero_add]
  rw[<-ht,List.getElem?_take] at hu
  split at hu
  ·simpa using hu
  ·cases hu
theorem three{W:World}{g o i:Nat}{cs:List Value}{y:Value}(hi:i<=cs.length)(hA:∀ t u,t<i->cs[t]? = some u->W.cell? ⟨g,o+t,none⟩=some u)(hB:W.cell? ⟨g,o+i,none⟩=some y)
 (hC:∀ t u,(cs.drop i)[t]? = some u->W.cell? ⟨g,o+(i+1)+t,none⟩=some u):∀ j u,(cs.take i++y :: cs.drop i)[j]? = some u->W.cell? ⟨g,o+j,none⟩=some u:=by
 intro j u hu
 rw[List.getElem?_append,List.length_take,Nat.min_eq_left hi] at hu
 split at hu
 ·rename_i hj
  rw[List.getElem?_take,if_pos hj] at hu
  exact hA j u hj hu
 ·rename_i hj
  by_cases e:j=i
  ·subst e
   rw[Nat.sub_self] at hu
   cases hu
   exact hB
  ·obtain⟨t,ht⟩:∃ t,j=i+1+t:=⟨j-(i+1),by omega⟩
   subst ht
   rw[show i+1+t-i=t+1 by omega,List.getElem?_cons_succ] at hu
   rw[<-Nat.add_assoc]
   exact hC t u hu
theorem block_setCells{g:Nat}{e:TypeId}:∀ (vs:List Value) (o:Nat) (w:World) (cur:Array Value),w.heap[g]? = some (.cells cur e (0,0))->∃ cur',(w.setCells g o vs).heap[g]? = some (.cells cur' e (0,0))/\cur'.size=cur.size
 | [],_,_,cur,h=>⟨cur,h,rfl⟩
 | v :: r,o,w,cur,h=>by
  obtain⟨cur',a,b⟩:=block_setCells r (o+1) _ _ (heap_setCell_same w g o cur e v h)
  exact⟨cur',a,by rw[b];simp⟩
theorem grown_setCells{g:Nat}:∀ (vs:List Value) (o:Nat) (w:World),w.grownBy (w.setCells g o vs) (some g)
 | [],_,_=>⟨rfl,rfl,rfl,Nat.le_refl _,fun _ _ _=>rfl⟩
 | v :: r,o,w=>by
  have h1:w.grownBy (w.setCell ⟨g,o,none⟩ v) (some g):=⟨rfl,rfl,rfl,by simp,fun k _ hk=>Below.heap_setCell _ _ _ _ (fun e=>hk (by rw[e]))⟩
  exact grown_then h1 (grown_setCells r (o+1) _) (fun k hk=>.inl (Option.some.inj hk).symm)
theorem nm_ins(xs:List (List UInt8))(i:Nat)(Y:ByteArray):nmCells (xs.take i++Y.data.toList :: xs.drop i)=(nmCells xs).take i++.string Y :: (nmCells xs).drop i:=by
 unfold nmCells
 rw[List.map_append,List.map_cons,List.map_take,List.map_drop]
 rfl
theorem nm_one(xs:List (List UInt8)):∀ v∈nmCells xs,v.oneCell'=true:=fun v hv=>by
 obtain⟨x,_,rfl⟩:=List.mem_map.1 hv
 rfl
theorem nm_len(xs:List (List UInt8)):(nmCells xs).length=xs.length:=List.length_map _
theorem ins_len(xs:List (List UInt8))(i:Nat)(Y:ByteArray)(h:i<=xs.length):(xs.take i++Y.data.toList :: xs.drop i).length=xs.length+1:=by simp;omega
theorem insert_any(base vb i:Nat)(v:Value)(xs:List (List UInt8))(Y:ByteArray)(w:World)(h:MidRow w base v xs)(hi:i<=xs.length)(hl:xs.length<=1000000000)(hvb:w.heap[vb]? = some (.cells #[.string Y] 9 (0,0)))(hne:v.ownBlock≠some vb)(hbase:base<=w.heap.size):
 Calls Tryz.prog 186 #[v,.int .i64 i,.slice (some ⟨vb,0,none⟩) 1 1] w fun e w'=>∃ v',e=.returned v'/\MidRow w' base v' (xs.take i++Y.data.toList :: xs.drop i)/\w.grownBy w' v.ownBlock/\(v'.ownBlock=v.ownBlock\/v'.ownBlock=some w.heap.size):=by
 obtain⟨a,cap,rfl,hnc,hcm,ha⟩:=h
 have hcm':cap<=9223372036854775807:=by unfold maxLen at hcm;omega
 have hvs:∀ j u,[Value.string Y][j]? = some u->w.cell? ⟨vb,0+j,none⟩=some u:=fun j u hu=>by
  rw[cell_of_row w vb (0+j) _ _ (0,0) hvb]
  simpa using hu
 have h1v:∀ u∈[Value.string Y],u.oneCell'=true:=fun u hu=>by
  simp only[List.mem_singleton] at hu
  subst hu
  rfl
 have hnl:=nm_len xs
 have endGrow:i=xs.length->cap<xs.length+1->(∀ b,a=some b->∀ j u,(nmCells xs)[j]? = some u->w.cell? (b.add j)=some u)->(a=none->xs.length=0)->
  Calls Tryz.prog 186 #[.slice a xs.length cap,.int .i64 i,.slice (some ⟨vb,0,none⟩) 1 1] w fun e w'=>∃ v',e=.returned v'/\MidRow w' base v' (xs.take i++Y.data.toList :: xs.drop i)/\w.grownBy w' (Value.slice a xs.length cap).ownBlock/\(v'.ownBlock=(Value.slice a xs.length cap).ownBlock\/v'.ownBlock=some w.heap.size):=by
  intro hin hroom hcs hnil
  subst hin
  refine(Any2.slices_Insert_string_end_grow Tryz.laysNm222 a xs.length cap vb 0 1 1 (nmCells xs) [.string Y] w (by omega) hnc hroom (by omega) hnl rfl hnil hcs hvs h1v).mono ?_
  rintro e w' ⟨rfl,rfl⟩
  have hge:=grownCap_ge w (xs.length+1) cap 9
  refine⟨_,rfl,⟨some ⟨w.heap.size,0,none⟩,grownCap w (xs.length+1) cap 9,by rw[ins_len _ _ _ ler];rfl,by rw[ins_len _ _ _ ler];exact hge,grownCap_le_maxLen w _ _ _ (by unfold maxLen;omega),.inr ⟨w.heap.size,0,_,rfl,hbase,heap_alloc_new w.drew _,?_,?_⟩⟩,?_,.inr rfl⟩
  ·simp only[Array.size_append,List.size_toArray,size_zeroCells,List.length_append,hnl,List.length_singleton]
   show 0+grownCap w (xs.length+1) cap 9<=xs.length+1+(grownCap w (xs.length+1) cap 9-(xs.length+1))*1
   omega
  ·intro j u hu
   rw[nm_ins,List.take_of_length_le (by omega),List.drop_eq_nil_of_le (by omega)] at hu
   rw[cell_of_row _ w.heap.size (0+j) _ _ (0,0) (heap_alloc_new w.drew _),Nat.zero_add]
   have hj:j<(nmCells xs++[Value.string Y]).length:=(List.getElem?_eq_some_iff.1 hu).1
   rw[Array.getElem?_append_left (by simpa using hj)]
   simpa using hu
  ·exact⟨rfl,rfl,rfl,by simp,fun k hk _=>heap_alloc_old (w:=w.drew) (o:=_) (h:=hk)⟩
 obtain⟨rfl,e0,rfl⟩|⟨g,off,cur,rfl,hb,hg,hsz,hcells⟩:=ha
 ·have h0:xs.length=0:=by rw[e0];rfl
  exact endGrow (by omega) (by omega) (fun b hb=>by cases hb) (fun _=>h0)
 ·have hvg:vb≠g:=fun e=>hne (by rw[e];rfl)
  have hsp:∀ j,off+j<cur.size->(w.cell? ⟨g,off+j,none⟩).isSome=true:=fun j hj=>by
   rw[cell_of_row w g (off+j) cur _ (0,0) hg,Array.getElem?_eq_getElem hj]
   rfl
  have hfz:∀ j,w.frozen? ⟨g,j,none⟩=false:=fun j=>frozen_of_row w g j cur _ hg
  by_cases hin:i=xs.length
  ·by_cases hroom:xs.length+1<=cap
   ·subst hin
    refine(Any2.slices_Insert_string_end_room Tryz.laysNm222 g off xs.length cap vb 0 1 1 [.string Y] w (by omega) hroom hcm' rfl (fun j hj=>by rw[Nat.add_assoc];exact hsp _ (by omega)) (fun j hj=>hfz _) hvs h1v).mono ?_
    rintro e w' ⟨rfl,rfl⟩
    obtain⟨cur',hc1,hc2⟩:=block_setCells [.string Y] (off+xs.length) w cur hg
    refine⟨_,rfl,⟨_,cap,by rw[ins_len _ _ _ hi],by rw[ins_len _ _ _ hi];exact hroom,hcm,.inr ⟨g,off,cur',rfl,hb,hc1,by omega,?_⟩⟩,grown_setCells _ _ _,.inl rfl⟩
    rw[nm_ins]
    refine three (by omega) (fun t u ht hu=>?_) ?_ (fun t u hu=>?_)
    ·rw[World.cell?_setCells_out g _ _ _ _ (fun _ _=>.inl (by show off+t < _;omega))]
     exact hcells t u hu
    ·exact World.cell?_setCells_in g [.string Y] (off+xs.length) w (fun j hj=>by rw[Nat.add_assoc];exact hsp _ (by simp at hj;omega)) 0 (by simp)
    ·rw[List.drop_eq_nil_of_le (by omega)] at hu
     cases hu
   ·exact endGrow hin (by omega) (fun b hb j u hu=>by
     cases hb
     rw[Addr.add_lit]
     exact hcells j u hu) (fun h=>by cases h)
  ·have hlt:i<xs.length:=by omega
   by_cases hroom:xs.length+1<=cap
   ·refine(Any2.slices_Insert_string_shift Tryz.laysNm222 g off xs.length cap i vb 0 1 1 (nmCells xs) [.string Y] w hlt (by omega) hroom hcm' hvg hnl rfl hcells (fun j hj=>hsp j (by omega)) (fun j hj=>hfz _) hvs (nm_one xs) h1v
     9 9 1 cur.size (by unfold World.shape?;rw[hvb];rfl) (by unfold World.shape?;rw[hg]) (by omega) (frozen_of_row w vb _ _ _ hvb) (frozen_of_row w vb _ _ _ hvb)).mono ?_
    rintro e w' ⟨rfl,rfl⟩
    obtain⟨cur1,hc1,hc2⟩:=block_setCells ((nmCells xs).drop i) (off+(i+1)) w.drew cur hg
    obtain⟨cur2,hc3,hc4⟩:=block_setCells [.string Y] (off+i) _ cur1 hc1
    have hlen:((nmCells xs).drop i).length=xs.length-i:=by rw[List.length_drop,hnl]
    refine⟨_,rfl,⟨_,cap,by rw[ins_len _ _ _ hi],by rw[ins_len _ _ _ hi];exact hroom,hcm,.inr ⟨g,off,cur2,rfl,hb,hc3,by omega,?_⟩⟩,?_,.inl rfl⟩
    ·rw[nm_ins]
     refine three (by omega) (fun t u ht hu=>?_) ?_ (fun t u hu=>?_)
     ·rw[World.cell?_setCells_out g _ _ _ _ (fun _ _=>.inl (by show off+t < _;omega)),World.cell?_setCells_out g _ _ _ _ (fun _ _=>.inl (by show off+t < _;omega))]
      exact hcells t u hu
     ·refine World.cell?_setCells_in g [.string Y] (off+i) _ (fun j hj=>?_) 0 (by simp)
      rw[cell_of_row _ g _ cur1 _ (0,0) hc1,Array.getElem?_eq_getElem (by simp at hj;omega)]
      rfl
     ·have htl:t<((nmCells xs).drop i).length:=(List.getElem?_eq_some_iff.1 hu).1
      rw[World.cell?_setCells_out g _ _ _ _ (fun _ _=>.inr (by show off+i+1<=off+(i+1)+t;omega))]
      have h9:=World.cell?_setCells_in g ((nmCells xs).drop i) (off+(i+1)) w.drew (fun j hj=>by rw[Nat.add_assoc];exact hsp _ (by omega)) t htl
      rw[h9,<-hu,List.getElem?_eq_getElem htl]
    ·have h1:w.grownBy (w.drew.setCells g (off+(i+1)) ((nmCells xs).drop i)) (some g):=by
      have:=grown_setCells (g:=g) ((nmCells xs).drop i) (off+(i+1)) w.drew
      exact⟨this.os,this.tape,this.output,this.size,this.block⟩
     exact grown_then h1 (grown_setCells _ _ _) (fun k hk=>.inl (Option.some.inj hk).symm)
   ·refine(Any2.slices_Insert_string_grow Tryz.laysNm222 g off xs.length cap i vb 0 1 1 (nmCells xs) [.string Y] w hlt (by omega) hnc (by omega) (by omega) hnl rfl hcells hvs (nm_one xs) h1v).mono ?_
    rintro e w' ⟨rfl,rfl⟩
    have hge:=grownCap_ge w (xs.length+1) cap 9
    have hlen:((nmCells xs).drop i).length=xs.length-i:=by rw[List.length_drop,hnl]
    obtain⟨K,hK⟩:∃ K,K=grownCap w (xs.length+1) cap 9:=⟨_,rfl⟩
    have hKm:K<=maxLen:=by rw[hK];exact grownCap_le_maxLen w _ _ _ (by unfold maxLen;omega)
    change ∃ v',Ending.returned (.slice (some ⟨w.heap.size,0,none⟩) (xs.length+1) (grownCap w (xs.length+1) cap 9))=.returned v'/\MidRow ((((w.alloc (.cells (((nmCells xs).take i).toArray++Builtin.zeroCells (Value.string ⟨#[]⟩).cells (xs.length+1-i)++Builtin.zeroCells (Value.string ⟨#[]⟩).cells (grownCap w (xs.length+1) cap 9-(xs.length+1))) 9)).drew.setCells w.heap.size i [.string Y]).drew).setCells w.heap.size (i+1) ((nmCells xs).drop i)) base v' _/\w.grownBy ((((w.alloc (.cells (((nmCells xs).take i).toArray++Builtin.zeroCells (Value.string ⟨#[]⟩).cells (xs.length+1-i)++Builtin.zeroCells (Value.string ⟨#[]⟩).cells (grownCap w (xs.length+1) cap 9-(xs.length+1))) 9)).drew.setCells w.heap.size i [.string Y]).drew).setCells w.heap.size (i+1) ((nmCells xs).drop i)) _/\(v'.ownBlock = _\/v'.ownBlock=some w.heap.size)
    rw[<-hK] at hge ⊢
    obtain⟨cur0,hcur0⟩:∃ c0,c0=((nmCells xs).take i).toArray++Builtin.zeroCells (Value.string ⟨#[]⟩).cells (xs.length+1-i)++Builtin.zeroCells (Value.string ⟨#[]⟩).cells (K-(xs.length+1)):=⟨_,rfl⟩
    have hs0:cur0.size=K:=by
     rw[hcur0]
     simp only[Array.size_append,List.size_toArray,size_zeroCells,List.length_take,hnl]
     show min i xs.length+(xs.length+1-i)*1+(K-(xs.length+1))*1=K
     omega
    have hcell0:∀ t u,t<i->(nmCells xs)[t]? = some u->cur0[t]? = some u:=fun t u ht hu=>by
     rw[hcur0,Array.append_assoc,Array.getElem?_append_left (by simp;omega)]
     simp only[List.getElem?_toArray,List.getElem?_take,if_pos ht]
     exact hu
    rw[<-hcur0]
    generalize hA:(w.alloc (.cells cur0 9)).drew=A1
    have hA1:A1.heap[w.heap.size]? = some (.cells cur0 9 (0,0)):=by rw[<-hA];exact heap_alloc_new w _
    have g1:w.grownBy A1 (some g):=by rw[<-hA];exact⟨rfl,rfl,rfl,by simp,fun k hk _=>heap_alloc_old (w:=w) (o:=_) (h:=hk)⟩
    have hspA:∀ j,j<K->(A1.cell? ⟨w.heap.size,j,none⟩).isSome=true:=fun j hj=>by
     rw[cell_of_row _ _ _ _ _ (0,0) hA1,Array.getElem?_eq_getElem (by omega)]
     rfl
    obtain⟨cur1,hc1,hc2⟩:=block_setCells [.string Y] i A1 cur0 hA1
    obtain⟨cur2,hc3,hc4⟩:=block_setCells ((nmCells xs).drop i) (i+1) (A1.setCells w.heap.size i [.string Y]).drew cur1 hc1
    refine⟨_,rfl,⟨_,K,by rw[ins_len _ _ _ hi],by rw[ins_len _ _ _ hi];exact hge,hKm,.inr ⟨w.heap.size,0,cur2,rfl,hbase,hc3,by omega,?_⟩⟩,?_,.inr rfl⟩
    ·rw[nm_ins]
     refine three (by omega) (fun t u ht hu=>?_) ?_ (fun t u hu=>?_)
     ·rw[World.cell?_setCells_out _ _ _ _ _ (fun _ _=>.inl (by show 0+t < _;omega))]
      show (A1.setCells w.heap.size i [.string Y]).cell? _ = _
      rw[World.cell?_setCells_out _ _ _ _ _ (fun _ _=>.inl (by show 0+t < _;omega)),cell_of_row _ _ _ _ _ (0,0) hA1,Nat.zero_add]
      exact hcell0 t u ht hu
     ·rw[World.cell?_setCells_out _ _ _ _ _ (fun _ _=>.inl (by show 0+i < _;omega))]
      show (A1.setCells w.heap.size i [.string Y]).cell? _ = _
      rw[Nat.zero_add]
      exact World.cell?_setCells_in w.heap.size [.string Y] i A1 (fun j hj=>hspA _ (by simp at hj;omega)) 0 (by simp)
     ·have htl:t<((nmCells xs).drop i).length:=(List.getElem?_eq_some_iff.1 hu).1
      rw[Nat.zero_add]
      have h9:=World.cell?_setCells_in w.heap.size ((nmCells xs).drop i) (i+1) (A1.setCells w.heap.size i [.string Y]).drew (fun j hj=>by
       show ((A1.setCells w.heap.size i [.string Y]).cell? _).isSome=true
       rw[cell_of_row _ _ _ cur1 _ (0,0) hc1,Array.getElem?_eq_getElem (by omega)]
       rfl) t htl
      rw[h9,<-hu,List.getElem?_eq_getElem htl]
    ·have h1:=grown_then g1 (grown_setCells (g:=w.heap.size) [.string Y] i A1) (fun k hk=>.inr (by cases hk;exact Nat.le_refl _))
     have h2:=grown_setCells (g:=w.heap.size) ((nmCells xs).drop i) (i+1) (A1.setCells w.heap.size i [.string Y]).drew
     exact grown_then h1 ⟨h2.os,h2.tape,h2.output,h2.size,h2.block⟩ (fun k hk=>.inr (by cases hk;exact Nat.le_refl _))
end Go.Proofs.YtgnfknjopafngabGreatDoor
namespace Go.Proofs.YtgnfknjopafngabGreatDoor
open M
structure Kahn (there fresh left:List Pk) (done ready:List (List UInt8)) (c:List UInt8->Nat):Prop where
 sub:∀ p∈left,p∈fresh
 apart:Apart fresh
 aleft:Apart left
 named:∀ p∈fresh,p.name≠[]
 gone:∀ p∈fresh,p ∉ left->c p.name=0/\∀ q∈left,waitsS p q there=false
 cnt:∀ p∈left,c p.name=waitN left there p
 rising:Rising ready
 free:∀ x,x∈ready↔∃ p∈left,Free left there p/\x=p.name
 order:orderS there fresh.length fresh []=orderS there left.length left done
def insAll(ys r:List (List UInt8)):List (List UInt8):=ys.foldl (fun r y=>insS y r) r
theorem insAll_mem(x:List UInt8):∀ (ys r:List (List UInt8)),x∈insAll ys r↔x∈ys\/x∈r
 | [],r=>by simp[insAll]
 | y :: ys,r=>by
  have:=insAll_mem x ys (insS y r)
  unfold insAll at this ⊢
  rw[List.foldl_cons,this,ins_mem,List.mem_cons]
  constructor
  ·rintro (h|h|h)
   ·exact .inl (.inr h)
   ·exact .inl (.inl h)
   ·exact .inr h
  ·rintro ((h|h)|h)
   ·exact .inr (.inl h)
   ·exact .inl h
   ·exact .inr (.inr h)
theorem insAll_rising:∀ (ys r:List (List UInt8)),Rising r->ys.Nodup->(∀ y∈ys,y ∉ r)->Rising (insAll ys r)
 | [],_,hr,_,_=>hr
 | y :: ys,r,hr,hn,hd=>by
  have hn':=List.nodup_cons.1 hn
  refine insAll_rising ys (insS y r) (ins_rising y r hr (hd y (by simp))) hn'.2 (fun z hz h=>?_)
  rcases(ins_mem y z r).1 h with rfl|h
  ·exact hn'.1 hz
  ·exact hd z (by simp[hz]) h
theorem Kahn.start{there fresh:List Pk}{ready:List (List UInt8)}{c:List UInt8->Nat}(ha:Apart fresh)(hn:∀ p∈fresh,p.name≠[])(hc:∀ p∈fresh,c p.name=waitN fresh there p)(hr:Rising ready)
 (hf:∀ x,x∈ready↔∃ p∈fresh,Free fresh there p/\x=p.name):Kahn there fresh fresh [] ready c:=
 ⟨fun _ h=>h,ha,ha,hn,fun _ hp h=>absurd hp h,hc,hr,hf,rfl⟩
theorem Kahn.step{there fresh left:List Pk}{done r:List (List UInt8)}{n:List UInt8}{c:List UInt8->Nat}{B:List (List UInt8)}(h:Kahn there fresh left done (n :: r) c)(hnd:B.Nodup)
 (hB:∀ x,x∈B↔∃ p∈fresh,∃ q∈fresh,p.name=x/\q.name=n/\waitsS p q there=true):
 (∀ x∈B,1<=c x)/\Kahn there fresh (left.filter fun p=>p.name != n) (done++[n]) (insAll (freedS c B) r) (less1 c B):=by
 obtain⟨q,hq,hqf,hqn⟩:=(h.free n).1 (by simp)
 have hqF:=h.sub q hq
 have hr':=List.pairwise_cons.1 h.rising
 have hnr:n ∉ r:=(List.nodup_cons.1 h.rising.nodup).1
 have hB':∀ p∈fresh,p.name∈B↔waitsS p q there=true:=fun p hp=>by
  rw[hB]
  constructor
  ·rintro ⟨p',hp',q',hq',e1,e2,e3⟩
   have ep:=h.apart.eq hp' hp e1
   have eq:=h.apart.eq hq' hqF (by rw[e2,hqn])
   rw[<-ep,<-eq]
   exact e3
  ·intro hw
   exact⟨p,hp,q,hqF,rfl,hqn.symm,hw⟩
 have hBl:∀ x∈B,∃ p∈left,p.name=x/\waitsS p q there=true:=fun x hx=>by
  obtain⟨p,hp,q',hq',e1,e2,e3⟩:=(hB x).1 hx
  have eq:=h.apart.eq hq' hqF (by rw[e2,hqn])
  subst eq
  refine⟨p,?_,e1,e3⟩
  exact Classical.byContradiction (fun hpl=>by
   have:=(h.gone p hp hpl).2 q' hq
   rw[this] at e3
   cases e3)
 have hless:∀ p,waitN left there p=waitN (left.filter fun p=>p.name != n) there p+(if waitsS p q there=true then 1 else 0):=fun p=>by rw[waitN_less h.aleft hq p,<-hqn]
 have hmem:∀ p,p∈left.filter (fun p=>p.name != n)↔p∈left/\p.name≠n:=fun p=>by rw[List.mem_filter];simp
 have hB1:∀ x∈B,1<=c x:=fun x hx=>by
  obtain⟨p,hp,rfl,hw⟩:=hBl x hx
  rw[h.cnt p hp,hless p,if_pos hw]
  omega
 have hcq:c n=0:=by rw[hqn,h.cnt q hq];exact waitN_zero.2 hqf
 have hnB:n ∉ B:=fun hh=>by have:=hB1 n hh;omega
 have hcnt':∀ p∈left,less1 c B p.name=waitN (left.filter fun p=>p.name != n) there p:=fun p hp=>by
  have h1:=hless p
  have h2:=h.cnt p hp
  unfold less1
  by_cases hw:waitsS p q there=true
  ·rw[if_pos ((hB' p (h.sub p hp)).2 hw),h2,h1,if_pos hw]
   omega
  ·rw[if_neg (fun hh=>hw ((hB' p (h.sub p hp)).1 hh)),h2,h1,if_neg hw]
   omega
 have hready:readyS left there=n:=Rising.min h.rising (ready_min there (fun p hp=>h.named p (h.sub p hp))) h.free
 have hnn:n≠[]:=by rw[hqn];exact h.named q hqF
 refine⟨hB1,⟨fun p hp=>h.sub p ((hmem p).1 hp).1,h.apart,h.aleft.filter _,h.named,fun p hp hpl=>?_,fun p hp=>hcnt' p ((hmem p).1 hp).1,?_,fun x=>?_,?_⟩⟩
 ·by_cases hl:p∈left
  ·have hpn:p.name=n:=Decidable.byContradiction (fun hne=>hpl ((hmem p).2 ⟨hl,hne⟩))
   have ep:=h.aleft.eq hl hq (by rw[hpn,hqn])
   subst ep
   refine⟨?_,fun q' hq'=>hqf q' ((hmem q').1 hq').1⟩
   unfold less1
   rw[hpn,if_neg hnB]
   exact hcq
  ·obtain⟨h1,h2⟩:=h.gone p hp hl
   refine⟨?_,fun q' hq'=>h2 q' ((hmem q').1 hq').1⟩
   unfold less1
   split <;> omega
 ·refine insAll_rising _ _ hr'.2 (hnd.filter _) (fun y hy hyr=>?_)
  unfold freedS at hy
  rw[List.mem_filter] at hy
  obtain⟨p,hp,hpf,rfl⟩:=(h.free y).1 (by simp[hyr])
  have h1:=h.cnt p hp
  rw[waitN_zero.2 hpf] at h1
  have h2:=hy.2
  rw[h1] at h2
  simp at h2
 ·rw[insAll_mem]
  constructor
  ·rintro (hx|hx)
   ·unfold freedS at hx
    rw[List.mem_filter] at hx
    obtain⟨p,hp,rfl,hw⟩:=hBl x hx.1
    have hne:p.name≠n:=fun e=>hnB (by rw[<-e];exact hx.1)
    refine⟨p,(hmem p).2 ⟨hp,hne⟩,waitN_zero.1 ?_,rfl⟩
    have h1:=hless p
    have h2:=h.cnt p hp
    have h3:c p.name=1:=by simpa using hx.2
    rw[if_pos hw] at h1
    omega
   ·obtain⟨p,hp,hpf,rfl⟩:=(h.free x).1 (by simp[hx])
    have hne:p.name≠n:=fun e=>hnr (by rw[<-e];exact hx)
    exact⟨p,(hmem p).2 ⟨hp,hne⟩,fun q' hq'=>hpf q' ((hmem q').1 hq').1,rfl⟩
  ·rintro ⟨p,hp,hpf,rfl⟩
   obtain⟨hp,hne⟩:=(hmem p).1 hp
   have h1:=hless p
   rw[waitN_zero.2 hpf] at h1
   by_cases hw:waitsS p q there=true
   ·left
    unfold freedS
    rw[List.mem_filter]
    refine⟨(hB' p (h.sub p hp)).2 hw,?_⟩
    rw[if_pos hw] at h1
    rw[h.cnt p hp,h1]
    rfl
   ·right
    rw[if_neg hw] at h1
    have:=(h.free p.name).2 ⟨p,hp,waitN_zero.1 (by omega),rfl⟩
    rcases List.mem_cons.1 this with e|e
    ·exact absurd e hne
    ·exact e
 ·rw[h.order]
  exact order_next h.aleft hready hnn
theorem Kahn.stop{there fresh left:List Pk}{done:List (List UInt8)}{c:List UInt8->Nat}(h:Kahn there fresh left done [] c):
 orderS there fresh.length fresh []=(done,left)/\∀ p∈fresh,0<c p.name↔p∈left:=by
 have hready:readyS left there=[]:=Rising.none (ready_min there (fun p hp=>h.named p (h.sub p hp))) (fun x hx=>by
  have:=(h.free x).2 hx
  cases this)
 refine⟨?_,fun p hp=>?_⟩
 ·rw[h.order]
  cases hl:left.length with
  | zero=>rfl
  | succ k=>
   unfold orderS
   rw[if_pos hready]
 ·constructor
  ·intro hc
   exact Classical.byContradiction (fun hl=>by have:=(h.gone p hp hl).1;omega)
  ·intro hl
   rw[h.cnt p hl]
   exact Nat.pos_of_ne_zero (fun e=>by
    have:=(h.free p.name).2 ⟨p,hl,waitN_zero.1 e,rfl⟩
    cases this)
theorem nodup_fst{E:List (List UInt8 × List UInt8)}(h:E.Nodup)(x:List UInt8):((E.filter fun e=>e.2 == x).map Prod.fst).Nodup:=by
 unfold List.Nodup
 rw[List.pairwise_map]
 refine(h.filter _).imp_of_mem (fun {a b} ha hb hab e=>hab ?_)
 have h1:a.2=x:=by simpa using (List.mem_filter.1 ha).2
 have h2:b.2=x:=by simpa using (List.mem_filter.1 hb).2
 exact Prod.ext e (h1.trans h2.symm)
theorem nodup_snd{E:List (List UInt8 × List UInt8)}(h:E.Nodup)(x:List UInt8):((E.filter fun e=>e.1 == x).map Prod.snd).Nodup:=by
 unfold List.Nodup
 rw[List.pairwise_map]
 refine(h.filter _).imp_of_mem (fun {a b} ha hb hab e=>hab ?_)
 have h1:a.1=x:=by simpa using (List.mem_filter.1 ha).2
 have h2:b.1=x:=by simpa using (List.mem_filter.1 hb).2
 exact Prod.ext (h1.trans h2.symm) e
theorem row_nodup{E:List (List UInt8 × List UInt8)}(h:E.Nodup)(x:List UInt8):(rowE E x).Nodup:=nodup_fst h x
theorem row_mem{there fresh:List Pk}{E:List (List UInt8 × List UInt8)}(h:∀ e,e∈E↔WaitE there fresh e)(n x:List UInt8):x∈rowE E n↔∃ p∈fresh,∃ q∈fresh,p.name=x/\q.name=n/\waitsS p q there=true:=by
 refine Iff.trans ?_ (h (x,n))
 unfold rowE
 rw[List.mem_map]
 constructor
 ·rintro ⟨e,he,rfl⟩
  obtain⟨h1,h2⟩:=List.mem_filter.1 he
  have:e.2=n:=by simpa using h2
  subst this
  exact h1
 ·intro he
  exact⟨(x,n),List.mem_filter.2 ⟨he,by simp⟩,rfl⟩
theorem cnt_is{there fresh:List Pk}{E:List (List UInt8 × List UInt8)}(hn:E.Nodup)(h:∀ e,e∈E↔WaitE there fresh e)(ha:Apart fresh){p:Pk}(hp:p∈fresh):cntE E p.name=waitN fresh there p:=by
 have hm:∀ x,x∈(E.filter fun e=>e.1 == p.name).map Prod.snd↔x∈(fresh.filter fun q=>waitsS p q there).map Pk.name:=fun x=>by
  rw[List.mem_map,List.mem_map]
  constructor
  ·rintro ⟨e,he,rfl⟩
   obtain⟨h1,h2⟩:=List.mem_filter.1 he
   have h2:e.1=p.name:=by simpa using h2
   obtain⟨p',hp',q,hq,e1,e2,e3⟩:=(h e).1 h1
   have ep:=ha.eq hp' hp (by rw[e1,h2])
   subst ep
   exact⟨q,List.mem_filter.2 ⟨hq,e3⟩,e2⟩
  ·rintro ⟨q,hq,rfl⟩
   obtain⟨h1,h2⟩:=List.mem_filter.1 hq
   exact⟨(p.name,q.name),List.mem_filter.2 ⟨(h _).2 ⟨p,hp,q,h1,rfl,rfl,h2⟩,by simp⟩,rfl⟩
 have n1:=nodup_snd hn p.name
 have n2:((fresh.filter fun q=>waitsS p q there).map Pk.name).Nodup:=(ha.filter fun q=>waitsS p q there)
 have l1:=nodup_le n1 (fun x hx=>(hm x).1 hx)
 have l2:=nodup_le n2 (fun x hx=>(hm x).2 hx)
 rw[List.length_map,List.length_map] at l1 l2
 unfold cntE waitN
 omega
theorem ready_start{there fresh:List Pk}{names:List (List UInt8)}{c:List UInt8->Nat}(hr:Rising names)(hm:∀ x,x∈names↔∃ p∈fresh,p.name=x)(hc:∀ p∈fresh,c p.name=waitN fresh there p):
 Rising (freeS c names)/\∀ x,x∈freeS c names↔∃ p∈fresh,Free fresh there p/\x=p.name:=by
 refine⟨List.Pairwise.filter _ hr,fun x=>?_⟩
 unfold freeS
 rw[List.mem_filter,hm]
 constructor
 ·rintro ⟨⟨p,hp,rfl⟩,h0⟩
  have h0:c p.name=0:=by simpa using h0
  exact⟨p,hp,waitN_zero.1 (by rw[<-hc p hp];exact h0),rfl⟩
 ·rintro ⟨p,hp,hf,rfl⟩
  refine⟨⟨p,hp,rfl⟩,?_⟩
  rw[hc p hp,waitN_zero.2 hf]
  rfl
end Go.Proofs.YtgnfknjopafngabGreatDoor
namespace Go.Proofs.YtgnfknjopafngabGreatDoor
open Go.RowKit Go.Maps
theorem clone_any(base:Nat)(v:Value)(xs:List (List UInt8))(w:World)(h:w.ownsRow base 9 1 v xs.length (nmCells xs))(hl:xs.length<=1000000000):
 Calls Tryz.prog 182 #[v] w fun e w'=>∃ v',e=.returned v'/\w'.ownsRow w.heap.size 9 1 v' xs.length (nmCells xs)/\Below w.heap.size w w':=by
 obtain⟨h1,⟨rfl,h0⟩|⟨g,cap,cur,rfl,hb,hg,hnc,hcm,hcs,ht⟩⟩:=h
 ·refine(Tryz.slices_Clone_string_nil 0 0 w).mono ?_
  rintro e w' ⟨rfl,rfl⟩
  refine⟨_,rfl,?_,Below.refl _ _⟩
  rw[List.length_eq_zero_iff.1 h0]
  exact World.ownsRow_nil _ _ _ _
 ·have hz:(xs.map fun x=>(⟨x.toArray⟩:ByteArray)).length=xs.length:=List.length_map _
  refine(Tryz.slices_Clone_string g 0 xs.length cap (xs.map fun x=>(⟨x.toArray⟩:ByteArray)) w (by omega) (by omega) (fun j hj=>?_)).mono ?_
  ·rw[hz] at hj
   rw[cell_of_row w g (0+j) cur _ (0,0) hg,Nat.zero_add]
   have h2:(nmCells xs)[j]? = some (.string ⟨xs[j].toArray⟩):=strs_cells hj
   rw[<-ht,List.getElem?_take,if_pos (by omega)] at h2
   rw[List.getD_eq_getElem?_getD,List.getElem?_map,List.getElem?_eq_getElem hj]
   simpa using h2
  ·rintro e w' ⟨v',rfl,r1,_,r2⟩
   refine⟨v',rfl,?_,r2⟩
   rw[List.take_of_length_le (by omega),List.map_map] at r1
   exact r1
end Go.Proofs.YtgnfknjopafngabGreatDoor
namespace Go.Proofs.YtgnfknjopafngabGreatDoor
open M
theorem Kahn.all{there fresh left:List Pk}{done names:List (List UInt8)}{c:List UInt8->Nat}(h:Kahn there fresh left done [] c)(hm:∀ x,x∈names↔∃ p∈fresh,p.name=x)(h0:∀ x∈names,c x=0):
 orderS there fresh.length fresh []=(done,[]):=by
 obtain⟨h1,h2⟩:=h.stop
 have e:left=[]:=List.eq_nil_iff_forall_not_mem.2 (fun p hp=>by
  have k1:=(h2 p (h.sub p hp)).2 hp
  have k2:=h0 p.name ((hm _).2 ⟨p,h.sub p hp,rfl⟩)
  omega)
 rw[h1,e]
theorem Kahn.stuck{there fresh left:List Pk}{done names:List (List UInt8)}{c:List UInt8->Nat}(h:Kahn there fresh left done [] c)(hm:∀ x,x∈names↔∃ p∈fresh,p.name=x)(hr:Rising names)(j:Nat)(hj:j<names.length)
 (hc:0<c names[j]) (hb:∀ k (hk:k<j),c names[k]=0):firstOf (orderS there fresh.length fresh []).2=names[j]/\names[j]≠[]:=by
 obtain⟨h1,h2⟩:=h.stop
 have hmin:=firstOf_min (l:=left) (fun p hp=>h.named p (h.sub p hp))
 obtain⟨p,hp,hpn⟩:=(hm names[j]).1 (List.getElem_mem hj)
 have hpl:p∈left:=(h2 p hp).1 (by rw[hpn];exact hc)
 refine⟨?_,by rw[<-hpn];exact h.named p hp⟩
 rw[h1]
 refine hmin.unique ⟨hmin.1,.inr ⟨⟨p,hpl,hpn.symm⟩,?_⟩⟩
 rintro x ⟨q,hq,rfl⟩
 have hqc:=(h2 q (h.sub q hq)).2 hq
 obtain⟨k,hk,e⟩:=List.getElem_of_mem ((hm q.name).2 ⟨q,h.sub q hq,rfl⟩)
 rw[<-e] at hqc ⊢
 rcases Nat.lt_trichotomy k j with hlt|rfl|hlt
 ·have:=hb k hlt
  omega
 ·exact less_irrefl _
 ·exact less_asymm (List.pairwise_iff_getElem.1 hr j k hj hk hlt)
def orderR(there fresh:List Pk):Sum Fa (List (List UInt8)):=
 if firstOf (orderS there fresh.length fresh []).2≠[] then .inl ⟨7,0,0,firstOf (orderS there fresh.length fresh []).2⟩ else .inr (orderS there fresh.length fresh []).1
theorem orderR_all{there fresh:List Pk}{done:List (List UInt8)}(h:orderS there fresh.length fresh []=(done,[])):orderR there fresh=.inr done:=by
 unfold orderR
 rw[h]
 rfl
theorem orderR_stuck{there fresh:List Pk}{n:List UInt8}(h:firstOf (orderS there fresh.length fresh []).2=n)(hn:n≠[]):orderR there fresh=.inl ⟨7,0,0,n⟩:=by
 unfold orderR
 rw[h,if_pos hn]
theorem sorted_mem{fresh:List Pk}(x:List UInt8):x∈sortN (fresh.map Pk.name)↔∃ p∈fresh,p.name=x:=by
 rw[(sortN_perm _).mem_iff,List.mem_map]
end Go.Proofs.YtgnfknjopafngabGreatDoor
namespace Go.Proofs.YtgnfknjopafngabGreatDoor
open Go.RowKit Go.Maps M
theorem grown_thenO{A B C:World}{row row':Option Nat}(h:A.grownBy B row)(k:B.grownBy C row')(hr:∀ j,row'=some j->row=some j\/A.heap.size<=j):A.grownBy C row:=
 ⟨k.os.trans h.os,k.tape.trans h.tape,k.output.trans h.output,Nat.le_trans h.size k.size,fun j hj hne=>(k.block j (Nat.lt_of_lt_of_le hj h.size) (fun e=>by
  rcases hr j e.symm with e1|e1
  ·exact hne e1.symm
  ·omega)).trans (h.block j hj hne)⟩
theorem grown_refl(w:World)(row:Option Nat):w.grownBy w row:=⟨rfl,rfl,rfl,Nat.le_refl _,fun _ _ _=>rfl⟩
theorem MidRow.kept{w w':World}{base:Nat}{v:Value}{xs:List (List UInt8)}{row:Option Nat}(h:MidRow w base v xs)(hg:w.grownBy w' row)(hne:∀ g,v.ownBlock=some g->row≠some g):MidRow w' base v xs:=by
 obtain⟨a,cap,rfl,h1,h2,h3⟩:=h
 refine⟨a,cap,rfl,h1,h2,h3.imp id ?_⟩
 rintro ⟨g,off,cur,rfl,hb,hc,hs,hx⟩
 have hlt:=(Array.getElem?_eq_some_iff.1 hc).1
 have e:=hg.block g hlt (fun e=>hne g rfl e.symm)
 exact⟨g,off,cur,rfl,hb,e.trans hc,hs,fun j u hu=>(World.cell?_of_block (a:=⟨g,off+j,none⟩) e).trans (hx j u hu)⟩
theorem MidRow.lt{w:World}{base:Nat}{v:Value}{xs:List (List UInt8)}(h:MidRow w base v xs):∀ g,v.ownBlock=some g->base<=g/\g<w.heap.size:=by
 obtain⟨a,cap,rfl,h1,h2,⟨rfl,_⟩|⟨g,off,cur,rfl,hb,hc,hs,hx⟩⟩:=h
 ·intro g h
  cases h
 ·intro g' h
  cases h
  exact⟨hb,(Array.getElem?_eq_some_iff.1 hc).1⟩
theorem MidRow.head{w:World}{base:Nat}{v:Value}{n:List UInt8}{r:List (List UInt8)}(h:MidRow w base v (n :: r)):
 ∃ g off cap,v=.slice (some ⟨g,off,none⟩) (r.length+1) cap/\r.length+1<=cap/\cap<=maxLen/\w.cell? ⟨g,off,none⟩=some (.string ⟨n.toArray⟩):=by
 obtain⟨a,cap,rfl,h1,h2,⟨_,h0,_⟩|⟨g,off,cur,rfl,hb,hc,hs,hx⟩⟩:=h
 ·cases h0
 ·exact⟨g,off,cap,rfl,h1,h2,hx 0 _ rfl⟩
theorem MidRow.tail{w:World}{base g off cap:Nat}{a':Option Addr}{n:List UInt8}{r:List (List UInt8)}(h:MidRow w base (.slice (some ⟨g,off,none⟩) (r.length+1) cap) (n :: r))(ha:a'=some ⟨g,off+1,none⟩\/(a'=some ⟨g,off,none⟩/\cap=1)):
 MidRow w base (.slice a' r.length (cap-1)) r/\(Value.slice a' r.length (cap-1)).ownBlock=some g:=by
 obtain⟨a,c,e,h1,h2,h3⟩:=h
 injection e with e1 e2 e3
 subst e1 e3
 obtain⟨h0,_⟩|⟨g',off',cur,e,hb,hc,hs,hx⟩:=h3
 ·cases h0
 ·injection e with e
  injection e with e1 e2
  subst e1 e2
  simp only[List.length_cons] at h1
  obtain rfl|⟨rfl,rfl⟩:=ha
  ·refine⟨⟨_,cap-1,rfl,by omega,by omega,.inr ⟨g,off+1,cur,rfl,hb,hc,by omega,fun j u hu=>?_⟩⟩,rfl⟩
   have h9:=hx (j+1) u hu
   rw[show off+(j+1)=off+1+j by omega] at h9
   exact h9
  ·have h0:r=[]:=List.length_eq_zero_iff.1 (by omega)
   subst h0
   refine⟨⟨_,0,rfl,Nat.le_refl _,by omega,.inr ⟨g,off,cur,rfl,hb,hc,by omega,fun j u hu=>?_⟩⟩,rfl⟩
   simp[nmCells] at hu
theorem insAll_take{ys r:List (List UInt8)}{j:Nat}(hj:j<ys.length):insAll (ys.take (j+1)) r=insS ys[j] (insAll (ys.take j) r):=by
 unfold insAll
 rw[List.take_succ_eq_append_getElem hj,List.foldl_append]
 rfl
theorem insAll_length:∀ (ys r:List (List UInt8)),(insAll ys r).length=ys.length+r.length
 | [],r=>by simp[insAll]
 | y :: ys,r=>by
  have:=insAll_length ys (insS y r)
  unfold insAll at this ⊢
  rw[List.foldl_cons,this,ins_length,List.length_cons]
  omega
theorem Kahn.ready_len{there fresh left:List Pk}{done ready:List (List UInt8)}{c:List UInt8->Nat}(h:Kahn there fresh left done ready c):ready.length<=left.length:=by
 have:=nodup_le (k:=left.map Pk.name) h.rising.nodup (fun x hx=>by
  obtain⟨p,hp,_,rfl⟩:=(h.free x).1 hx
  exact List.mem_map.2 ⟨p,hp,rfl⟩)
 rwa [List.length_map] at this
theorem Kahn.cnt_le{there fresh left:List Pk}{done ready:List (List UInt8)}{c:List UInt8->Nat}(h:Kahn there fresh left done ready c){p:Pk}(hp:p∈fresh):c p.name<=left.length:=by
 by_cases hl:p∈left
 ·rw[h.cnt p hl]
  exact List.length_filter_le _ _
 ·rw[(h.gone p hp hl).1]
  omega
theorem Kahn.less{there fresh left:List Pk}{done r:List (List UInt8)}{n:List UInt8}{c:List UInt8->Nat}(h:Kahn there fresh left done (n :: r) c):(left.filter fun p=>p.name != n).length<left.length:=by
 obtain⟨q,hq,_,hqn⟩:=(h.free n).1 (by simp)
 rw[List.length_filter_lt_length_iff_exists]
 exact⟨q,hq,by simp[hqn]⟩
theorem Kahn.mid{there fresh left:List Pk}{done r:List (List UInt8)}{n:List UInt8}{c:List UInt8->Nat}{B:List (List UInt8)}(h:Kahn there fresh left done (n :: r) c)(hnd:B.Nodup)(j:Nat):
 Rising (insAll ((freedS c B).take j) r):=by
 have hr':=List.pairwise_cons.1 h.rising
 refine insAll_rising _ _ hr'.2 (List.Nodup.sublist (List.take_sublist j _) (hnd.filter _)) (fun y hy hyr=>?_)
 have hy:=List.mem_of_mem_take hy
 unfold freedS at hy
 rw[List.mem_filter] at hy
 obtain⟨p,hp,hpf,rfl⟩:=(h.free y).1 (by simp[hyr])
 have h1:=h.cnt p hp
 rw[waitN_zero.2 hpf] at h1
 have h2:=hy.2
 rw[h1] at h2
 simp at h2
theorem strs_elem:Tryz.prog.underlying 41=some (.slice (Tryz.prog.elem 41)):=by kernel_rfl
theorem strs_size(w:World):(sizeOf (Tryz.prog.elem 41)).run Tryz.prog w=.ok 1 w:=by
 have h:(Tryz.prog.info? (Tryz.prog.elem 41)).map (fun i=>i.size)=some 1:=by kernel_rfl
 obtain⟨i,hi,e⟩:=Option.map_eq_some_iff.1 h
 simp[sizeOf,typeInfo,hi,e]
theorem str_behind(g off n c:Nat):∃ a',(a'=some ⟨g,off+1,none⟩\/(a'=some ⟨g,off,none⟩/\c=1))/\∀ w,(Instr.slice 41 (.slice (some ⟨g,off,none⟩) (n+1) c) (some (.int .i64 1)) none none).run Tryz.prog w=.ok (.slice a' n (c-1)) w:=by
 by_cases h:c=1
 ·refine⟨some ⟨g,off,none⟩,.inr ⟨rfl,h⟩,fun w=>?_⟩
  rw[run_slice_l w _ _ _ _ strs_elem _ _ (by omega) (by omega),strs_size]
  simp[Result.andThen,sliced,h]
 ·refine⟨some ⟨g,off+1,none⟩,.inl rfl,fun w=>?_⟩
  rw[run_slice_l w _ _ _ _ strs_elem _ _ (by omega) (by omega),strs_size]
  simp[Result.andThen,sliced,h,Addr.add_lit]
def lenV:Value->Nat
 | .slice _ n _=>n
 | _=>0
end Go.Proofs.YtgnfknjopafngabGreatDoor
