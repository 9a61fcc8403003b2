import Derived.BigRegionIn
import Derived.Test.YtgnfknjopafngabGreatDoorKnw
set_option maxRecDepth 100000
set_option maxHeartbeats 8000000
namespace Go.Proofs.YtgnfknjopafngabGreatDoor
open Go.RowKit Go.Maps Go.Shelf
attribute [local go_sem] Oper.semAt_some
def packS:ByteArray:=⟨#[112,97,99,107,97,103,101,32]⟩
theorem ba_ext{a b:ByteArray}(h:a.data.toList=b.data.toList):a=b:=bytes_same h
theorem textV_take{all:List M.Pk}(ha:M.Apart all){k:Nat}(hk:k<all.length):((M.textsS all).map strV).take (k+1)=((M.textsS all).map strV).take k++[.string (txAt all k)]:=by
 obtain⟨p,hp,e1,_,e2⟩:=at_names ha hk
 have hl:k<(M.textsS all).length:=by rw[M.texts_len];exact hk
 have e3:(M.textsS all)[k]=M.printS p:=by
  have:(M.textsS all)[k]? = some (M.printS p):=by unfold M.textsS;rw[List.getElem?_map,e1,Option.map_some,M.textOf_mem ha hp]
  rw[List.getElem?_eq_getElem hl] at this
  exact Option.some.inj this
 rw[<-List.map_take,<-List.map_take,List.take_succ_eq_append_getElem hl,List.map_append,e3,e2]
 rfl
theorem text_parts{l:List M.Pk}(ha:M.Apart l){k:Nat}(hk:k<l.length):
 8+(nmAt l k).size<(txAt l k).size/\(txAt l k).extract 0 8=packS/\(txAt l k).extract 8 (8+(nmAt l k).size)=nmAt l k/\(txAt l k).data[8+(nmAt l k).size]? = some 32:=by
 obtain⟨p,hp,_,e1,e2⟩:=at_names ha hk
 rw[e1,e2]
 have e3:M.printS p=[112,97,99,107,97,103,101,32]++(p.name++32 :: (p.ver++M.needsText p.needs++M.barsText p.bars++p.files.flatMap M.fileText)):=by unfold M.printS;simp
 generalize p.ver++M.needsText p.needs++M.barsText p.bars++p.files.flatMap M.fileText=r at e3
 rw[e3]
 have hs:(ByteArray.mk p.name.toArray).size=p.name.length:=by rw[<-len_data]
 rw[hs]
 refine⟨?_,?_,?_,?_⟩
 ·rw[<-len_data]
  simp
  omega
 ·apply ba_ext
  simp[packS]
 ·apply ba_ext
  simp
 ·show (List.toArray _)[_]? = _
  rw[List.getElem?_toArray,List.getElem?_append_right (by simp),List.getElem?_append_right (by simp)]
  simp
theorem xPackages_any(x d s k b:Nat)(l:List M.Pk)(w:World)(hx:SessAt w x d (.pointer (some ⟨s,0,none⟩)))(hst:StoreAt w s k b)(hl:SetIn w b l)(hn:l.length<=1000000)(hs:∀ p∈l,ReadP p)(hz:M.sizeS l<=1000000):
 Calls Tryz.prog 26 #[.pointer (some ⟨x,0,none⟩)] w fun e w'=>∃ a c,e=.returned (.tuple #[.slice a l.length c,.bool true])/\w'.ownsRow w.heap.size 9 1 (.slice a l.length c) l.length ((M.textsS l).map strV)/\Below w.heap.size w w':=by
 refine(callsIn_wide (n:=5)).1 ?_
 have cP:=fun wx=>(callsIn_wide (n:=4)).2 (packs_any s wx)
 have hq:=packs_on (w.heap.size+1+1) s k b (5-1) l w hst hl hn hs (by decide)
 have ha:=hl.apart
 have q1:w.cell? ⟨x,1,none⟩=some (.pointer (some ⟨s,0,none⟩)):=(cell_of_row w _ 1 _ _ (0,0) hx).trans rfl
 have hxl:x<w.heap.size:=(ges.1 hx).1
 have h5:1<=5:=by decide
 obtain⟨i0,hi0,hz0,hz1,hz2⟩:=info_parts infoStr
 have HSt:=hid hst
 have HL:=hid hl
 have HS:=hid hs
 clear hst hl hs hx
 refine callsIn_of_wp_marks Tryz.func26 rfl trivial ?_ rfl
 simp only[Tryz.ntmps26,List.size_toArray,List.length_cons,List.length_nil,Nat.reduceAdd,Nat.reduceSub,Array.replicate_succ,Array.replicate_zero,List.push_toArray,List.append_toArray,List.nil_append,List.cons_append]
 gi_wp2_with (refine⟨trivial,?_⟩;gi_at_call 43;refine(cP _).mono ?_;rintro e w1 ⟨rfl,rfl⟩)
 obtain⟨W1,hW1⟩:∃ W1,((w.alloc (Obj.cells #[Value.slice none 0 0] 41)).alloc (Obj.cells #[Value.bool true] 4)).alloc (Obj.cells #[Value.pointer (some ⟨s,0,none⟩)] 59)=W1:=⟨_,rfl⟩
 have hB1:Below w.heap.size w W1:=by rw[<-hW1];exact bt (bt ((Below.refl _ w).alloc ler _) ((Below.refl _ _).alloc ler _)) ((Below.refl _ _).alloc ler _)
 have hs1:W1.heap.size=w.heap.size+1+1+1:=by rw[<-hW1];simp
 have b1:Boxed W1 w.heap.size 41 (.slice none 0 0):=by rw[<-hW1];exact((Boxed.new _ _ _).alloc _).alloc _
 have b2:Boxed W1 (w.heap.size+1) 4 (.bool true):=by
  rw[<-hW1]
  have:=(Boxed.new (w.alloc (Obj.cells #[Value.slice none 0 0] 41)) 4 (.bool true)).alloc (Obj.cells #[Value.pointer (some ⟨s,0,none⟩)] 59)
  rwa [World.size_alloc] at this
 have b3:Boxed W1 (w.heap.size+1+1) 59 (.pointer (some ⟨s,0,none⟩)):=by
  rw[<-hW1]
  have:=Boxed.new ((w.alloc (Obj.cells #[Value.slice none 0 0] 41)).alloc (Obj.cells #[Value.bool true] 4)) 59 (.pointer (some ⟨s,0,none⟩))
  rwa [World.size_alloc,World.size_alloc] at this
 rw[hW1]
 clear hW1
 refine wpIn_range_on rfl (by decide) (gf:=89) (fr:=#[]) (lb:=#[.pointer (some ⟨w.heap.size+1+1,0,none⟩)]) rfl trivial (enters_of Tryz.func89 (by kernel_rfl) rfl) hq (fun W hb=>(hb.cell (p:=⟨w.heap.size+1+1,0,none⟩) b3.lt).trans b3.cell) hB1 (fun _=>rfl)
  (fun k c W=>∃ a cap,Boxed W w.heap.size 41 (.slice a k cap)/\W.ownsRow w.heap.size 9 1 (.slice a k cap) k (((M.textsS l).map strV).take k)/\Boxed W (w.heap.size+1) 4 (.bool true)/\Boxed W (w.heap.size+1+1) 59 (.pointer (some ⟨s,0,none⟩))/\(∀ j,c j↔j=w.heap.size\/j=w.heap.size+1\/(Value.slice a k cap).ownBlock=some j)/\Below w.heap.size w W)
  ?ia ?ic (fun j=>j=w.heap.size\/j=w.heap.size+1) ?h0
  (fun k=>{ tmps:=#[.pointer (some ⟨x,0,none⟩),undef,.slice none 0 0,.bool false,.pointer (some ⟨w.heap.size,0,none⟩),.pointer (some ⟨w.heap.size+1,0,none⟩),.func (.func 89) #[] #[.pointer (some ⟨w.heap.size+1+1,0,none⟩)],.string (nmAt l k),.string (txAt l k),undef,undef,.pointer (some ⟨x,0,none⟩),.pointer (some ⟨x,0,none⟩),.pointer (some ⟨x,1,none⟩),.pointer (some ⟨s,0,none⟩),.func (.func 89) #[] #[.pointer (some ⟨w.heap.size+1+1,0,none⟩)],.func (.func 89) #[] #[.pointer (some ⟨w.heap.size+1+1,0,none⟩)],.string (nmAt l k),.string (txAt l k),undef,undef,undef,undef,undef,undef,undef,undef,undef,undef,undef,undef,undef,undef,undef,undef,undef,undef,undef,undef,undef,undef,undef,undef,undef,undef,undef,undef,undef,undef,undef,undef,undef,undef,undef,undef,undef,undef,undef,undef],defers:=[] }) ?assign ?body ?done
 case ia=>
  rintro k c W1' W2 ⟨a,cap,hbx,hrow,hbo,hbs,hc,hB⟩ hg
  refine⟨a,cap,(hg.block _ hbx.lt (fun e=>by omega)).trans hbx,hg.own hrow (fun g hg' e=>e.2 ((hc g).2 (.inr (.inr hg')))),(hg.block _ hbo.lt (fun e=>by omega)).trans hbo,(hg.block _ hbs.lt (fun e=>by omega)).trans hbs,hc,Below.chg hB hg (fun j e=>by omega) ler⟩
 case ic=>
  rintro k c W1' j ⟨a,cap,hbx,hrow,hbo,hbs,hc,hB⟩ hj
  rcases(hc j).1 hj with rfl|rfl|e
  ·exact⟨Nat.le_refl _,hbx.lt⟩
  ·exact⟨by omega,hbo.lt⟩
  ·exact hrow.lt j e
 case h0=>
  exact⟨none,0,b1,World.ownsRow_nil _ _ _ _,b2,b3,fun j=>⟨fun h=>h.elim .inl (fun h=>.inr (.inl h)),fun h=>h.elim .inl (fun h=>h.elim .inr (fun e=>by cases e))⟩,hB1⟩
 case assign=>
  intro lp k W K hK
  gi_wp2
  exact hK
 case body=>
  rintro lp k c W hk ⟨a,cap,hbx,hrow,hbo,hbs,hc,hB⟩
  have hc0:=hbx.cell
  have hc1:=hbo.cell
  have hf1:=hbo.frozen
  have hcells:=textV_take ha hk
  obtain⟨t1,t2,t3,t4⟩:=text_parts ha hk
  unfold packS at t2
  have hsz:=hB.size
  have HC:=hid hc
  have HCe:=hid hcells
  have hT8:(txAt l k).size<=1000000:=by
   have hkl:k<(M.textsS l).length:=by rw[M.texts_len];exact hk
   have:=texts_short ha (List.getElem_mem hkl)
   have e:(txAt l k).size=(M.textsS l)[k].length:=by
    unfold txAt
    rw[List.getElem?_eq_getElem hkl,<-len_data]
    rfl
   omega
  have hN8:(nmAt l k).size<=1000000:=by omega
  generalize hTx:txAt l k=T at *
  generalize hNx:nmAt l k=N at *
  have hbW:Boxed (W.setCell ⟨w.heap.size+1,0,none⟩ (.bool true)) w.heap.size 41 (.slice a k cap):=hbx.kept (grownBy_setCell' _ _ _) (fun e=>by have:=Option.some.inj e;omega)
  have hrW:(W.setCell ⟨w.heap.size+1,0,none⟩ (.bool true)).ownsRow w.heap.size 9 1 (.slice a k cap) k (((M.textsS l).map strV).take k):=hrow.kept (grownBy_setCell' _ _ _) (.inr (hbo.not_row (by decide) hrow).symm)
  have hsW:Boxed (W.setCell ⟨w.heap.size+1,0,none⟩ (.bool true)) (w.heap.size+1+1) 59 (.pointer (some ⟨s,0,none⟩)):=hbs.kept (grownBy_setCell' _ _ _) (fun e=>by have:=Option.some.inj e;omega)
  have hoW:Boxed (W.setCell ⟨w.heap.size+1,0,none⟩ (.bool true)) (w.heap.size+1) 4 (.bool true):=hbo.set _
  have hcW:=hbW.cell
  have hzW:(W.setCell ⟨w.heap.size+1,0,none⟩ (.bool true)).heap.size=W.heap.size:=by simp
  have HCs:Hid (Chg c W (W.setCell ⟨w.heap.size+1,0,none⟩ (.bool true))):=Chg.grown (grownBy_setCell' _ _ _) (fun j e _=>(HC.out j).2 (.inr (.inl (Option.some.inj e).symm)))
  have HBW:Hid (Below w.heap.size w (W.setCell ⟨w.heap.size+1,0,none⟩ (.bool true))):=hB.setCell (p:=⟨w.heap.size+1,0,none⟩) (by show w.heap.size<=w.heap.size+1;omega) _
  have t5:((T[8+N.size]'t1).toNat:Int)=32:=by
   have h9:8+N.size<T.data.size:=t1
   rw[Array.getElem?_eq_getElem h9] at t4
   show ((T.data[8+N.size]).toNat:Int)=32
   rw[Option.some.inj t4]
   rfl
  clear hc hcells hq t4
  gi_wp2_with (gi_at_builtin;go_must (refine wpListIn_append_own_at _ rfl _ _ 41 rfl w.heap.size 9 i0 (.string ⟨#[]⟩) 1 16 Tryz.underlying41 hi0 hz0 hz1 hz2 rfl (by decide) _ _ _ rfl (hrW.alloc _) ⟨W.heap.size,0,none⟩ 1 1 [.string T] rfl rfl (by have:=one_new (W.setCell ⟨w.heap.size+1,0,none⟩ (.bool true)) (.string T) 9;rwa [hzW] at this) (by intro u hu;simp at hu;subst hu;rfl) (by unfold maxLen;omega) (by omega) (by simp;omega) ?_);intro v' w1 hown' hgrow _ hat;obtain⟨g',cap',rfl⟩:=ownsRow_succ hown';obtain⟨hv1,hv2,hr2,hk2,hb2⟩:=hbW.appended (by decide) hrW (by rw[hzW];exact hsz) ler hown' hgrow;have hc9:=hv1.cell;have hf9:=hv1.frozen)
  have hG2:=setCell_grown w1 w.heap.size 0 (.slice (some ⟨g',0,none⟩) (k+1) cap')
  have hne1:some (w.heap.size+1)≠(Value.slice a k cap).ownBlock:=hbo.not_row (by decide) hrow
  have hne2:some (w.heap.size+1+1)≠(Value.slice a k cap).ownBlock:=hbs.not_row (by decide) hrow
  refine⟨fun j=>j=w.heap.size\/j=w.heap.size+1\/(Value.slice (some ⟨g',0,none⟩) (k+1) cap').ownBlock=some j,⟨_,_,hv2,by rw[HCe.out];exact hr2,?_,?_,fun j=>Iff.rfl,HBW.out.trans hb2⟩,?_,?_⟩
  ·exact((hoW.alloc _).kept hgrow hne1).kept hG2 (fun e=>by have:=Option.some.inj e;omega)
  ·exact((hsW.alloc _).kept hgrow hne2).kept hG2 (fun e=>by have:=Option.some.inj e;omega)
  ·exact((HCs.out.then (Chg.below (F:=fun _=>False) ((Below.refl _ _).alloc ler _)) (fun _ _ e=>e.elim)).then (Chg.grown (F:=fun j=>(Value.slice a k cap).ownBlock=some j) hgrow (fun j e _=>e)) (fun j _ e=>(HC.out j).2 (.inr (.inr e)))).then (Chg.grown (F:=fun j=>j=w.heap.size) hG2 (fun j e _=>(Option.some.inj e).symm)) (fun j _ e=>(HC.out j).2 (.inl e))
  ·rintro j (rfl|rfl|e)
   ·exact .inl ((HC.out _).2 (.inl rfl))
   ·exact .inl ((HC.out _).2 (.inr (.inl rfl)))
   ·rcases hat with h|h
    ·exact .inl ((HC.out j).2 (.inr (.inr (h.symm.trans e))))
    ·rw[h] at e
     simp at e
     omega
 case done=>
  rintro D c W hD hcD ⟨a,cap,hbx,hrow,hbo,hbs,hc,hB⟩ hK
  have hDl:D<W.heap.size:=(ges.1 hK).1
  have hsz:=hB.size
  rw[List.take_of_length_le (by rw[List.length_map,M.texts_len];exact Nat.le_refl _)] at hrow
  obtain⟨W2,hW2⟩:∃ W2,(W.alloc (Obj.cells #[Value.int .i64 0] 3)).alloc (Obj.cells #[Value.bool false] 4)=W2:=⟨_,rfl⟩
  have hB2:Below W.heap.size W W2:=by rw[<-hW2];exact bt ((Below.refl _ W).alloc ler _) ((Below.refl _ _).alloc ler _)
  have hs2:W2.heap.size=W.heap.size+1+1:=by rw[<-hW2];simp
  have k1:Boxed W2 W.heap.size 3 (.int .i64 (0:Nat)):=by rw[<-hW2];exact(Boxed.new _ _ _).alloc _
  have k2:Boxed W2 (W.heap.size+1) 4 (.bool false):=by
   rw[<-hW2]
   have:=Boxed.new (W.alloc (Obj.cells #[Value.int .i64 0] 3)) 4 (.bool false)
   rwa [World.size_alloc] at this
  have hr2:W2.ownsRow w.heap.size 9 1 (.slice a l.length cap) l.length ((M.textsS l).map strV):=own_below hrow hB2
  have hbl2:Boxed W2 w.heap.size 41 (.slice a l.length cap):=(hB2.block _ hbx.lt).trans hbx
  have hbo2:Boxed W2 (w.heap.size+1) 4 (.bool true):=(hB2.block _ hbo.lt).trans hbo
  obtain⟨g,hg⟩:∃ g,0<l.length->a=some ⟨g,0,none⟩/\g<W.heap.size/\g≠w.heap.size+1:=by
   rcases hrow.2 with ⟨_,h0⟩|⟨g,cap',cur,e,_,hgb,_⟩
   ·exact⟨0,fun h=>by omega⟩
   ·refine⟨g,fun _=>?_⟩
    cases e
    refine⟨rfl,(ges.1 hgb).1,fun e=>?_⟩
    have:=hbo.not_row (by decide) hrow
    exact this (by rw[<-e];rfl)
  have cQ:=packs_ask (w.heap.size+1+1) s k b (w.heap.size+1) (W.heap.size+1) W.heap.size w.heap.size g cap (.slice a l.length cap) l w W2 HSt.out ((hB2.cell (p:=⟨w.heap.size+1+1,0,none⟩) hbs.lt).trans hbs.cell) HL.out (hB.trans (hB2.mono hsz)) hn HS.out (by have:=hbo.lt;omega) (by have:=hbo.lt;omega) (by omega) (by omega) (by have:=hbx.lt;omega) (by have:=hbx.lt;omega) ⟨by omega,hsz,by omega⟩ ⟨hbo2,k2,k1,hbl2⟩ (fun h=>by rw[(hg h).1]) (fun h=>⟨(hg h).2.2,by have:=(hg h).2.1;omega,by have:=(hg h).2.1;omega⟩) (fun j hj=>by
   obtain⟨g2,e2,_,_,hcl⟩:=((RowIn.own hr2).wide (Nat.zero_le _) ler).cellAt (by omega)
   rw[(hg (by omega)).1] at e2
   cases e2
   have hjl:j<(M.textsS l).length:=by rw[M.texts_len];exact hj
   refine hcl j _ ?_
   unfold txAt
   rw[List.getElem?_map,List.getElem?_eq_getElem hjl]
   rfl)
  have HJ:Hid (∀ j,(Value.slice a l.length cap).ownBlock=some j->j<W.heap.size/\j≠w.heap.size+1):=fun j hj=>⟨(hrow.lt j hj).2,fun e=>(hbo.not_row (by decide) hrow) (by rw[<-e];exact hj.symm)⟩
  have cQ2:=(callsIn_wide (n:=4)).2 cQ
  have HK2:Hid (W2.heap[D]? = some (.deferred (some []))):=(hB2.block _ hDl).trans hK
  have HR2:=hid hr2
  have HBL:=hid hbl2
  have HB2:Hid (Below w.heap.size w W2):=hB.trans (hB2.mono hsz)
  have hblt:=hbx.lt
  have hbot:=hbo.lt
  have HW2:=hid hW2
  clear hc hrow hr2 hbl2 hbo2 cQ hbx hbo hbs k1 k2 hW2 hq
  gi_wp2_with (first|(refine⟨trivial,?_⟩;gi_at_call 89;rw[HW2.out];refine cQ2.mono ?_;rintro e w3 ⟨⟨v,rfl⟩,hbo3,hc3⟩;have q4:w3.cell? ⟨w.heap.size,0,none⟩=some (.slice a l.length cap):=hc3.cell HBL.out.cell (fun e=>by have e2:w.heap.size=w.heap.size+1\/w.heap.size=W.heap.size\/w.heap.size=W.heap.size+1:=e;omega);have q5:=hbo3.cell))
  gi_region
  all_goals
   gi_wp2
   have hD3:w3.drew.heap[D]? = some (.deferred (some [])):=(hc3.block D (by omega) (fun e=>by omega)).trans HK2.out
   refine⟨by simp,.inl ⟨_,_,rfl,run_takeDeferred hD3,?_⟩⟩
   refine⟨_,results_tmp2 rfl _ _ _,a,cap,rfl,?_,?_⟩
   ·have h3:=hc3.own HR2.out (fun j hj e=>by have:=HJ.out j hj;omega)
    exact ownsRow_putObj (own_below h3 (below_same w3 1)) (.deferred none) hD3 rfl
   ·exact((Below.chg HB2.out hc3 (fun j e=>by omega) ler).drew).trans (belowK_b (w:=w) ler w3.drew D _ _ (by omega) hD3 rfl rfl)
def NoText(F:Nat->Prop)(w:World):Prop:=∀ k,F k->(∃ c t fz,w.heap[k]? = some (.cells c t fz)/\t≠181)/\(StrBlk w k\/∀ s,w.cell? ⟨k,0,none⟩≠some (.string s))/\(∀ a n c,w.cell? ⟨k,0,none⟩=some (.slice a n c)->16<=n)
theorem RowIn.chg{F:Nat->Prop}{w w':World}{lo hi n:Nat}{v:Value}{xs:List Value}(h:RowIn w lo hi v n xs)(hc:Chg F w w')(h0:xs=[]->n=0)(hF:∀ g,(∀ u,xs[0]? = some u->w.cell? ⟨g,0,none⟩=some u)->(StrBlk w g->xs.length=n)->xs≠[]->¬ F g)(hh:hi<=w.heap.size):RowIn w' lo hi v n xs:=by
 obtain h|⟨g,cap,h1,h2,h3,h4,h5⟩:=h
 ·exact .inl h
 ·refine .inr ⟨g,cap,h1,h2,h3,⟨h4.1,fun ⟨c,f,e⟩=>?_⟩,fun j u hu=>?_⟩
  ·by_cases hne:xs=[]
   ·rw[h0 hne,hne,List.length_nil]
   ·exact h4.2 ⟨c,f,(hc.block g (by omega) (hF g (fun u hu=>h5 0 u hu) h4.2 hne)).symm.trans e⟩
  ·have hne:xs≠[]:=fun e=>by rw[e] at hu;cases hu
   exact hc.cell (h5 j u hu) (hF g (fun u hu=>h5 0 u hu) h4.2 hne)
theorem RowIn.chs{F:Nat->Prop}{w w':World}{lo hi:Nat}{v:Value}{l:List M.Ch}(h:RowIn w lo hi v l.length (chsCells l))(hc:Chg F w w')(hF:NoText F w)(hh:hi<=w.heap.size):RowIn w' lo hi v l.length (chsCells l):=by
 refine h.chg hc (fun e=>?_) (fun g hg ht hne f=>?_) hh
 ·cases l with
  | nil=>rfl
  | cons c l=>cases e
 ·cases l with
  | nil=>exact hne rfl
  | cons c l=>
   rcases(hF g f).2.1 with k|k
   ·have:=ht k
    rw[chsCells_len] at this
    simp at this
    omega
   ·exact k _ (hg (strV c.name) rfl)
theorem RowIn.fls{F:Nat->Prop}{w w':World}{lo hi:Nat}{v:Value}{l:List M.Fl}(h:RowIn w lo hi v l.length (flsCells l))(hc:Chg F w w')(hF:NoText F w)(hh:hi<=w.heap.size):RowIn w' lo hi v l.length (flsCells l):=by
 refine h.chg hc (fun e=>?_) (fun g hg ht hne f=>?_) hh
 ·cases l with
  | nil=>rfl
  | cons c l=>cases e
 ·cases l with
  | nil=>exact hne rfl
  | cons c l=>
   rcases(hF g f).2.1 with k|k
   ·have:=ht k
    rw[flsCells_len] at this
    simp at this
    omega
   ·exact k _ (hg (strV c.path) rfl)
theorem NeedsIn.chg{F:Nat->Prop}{w w':World}{lo hi:Nat}{v:Value}{l:List (List M.Ch)}(h:NeedsIn w lo hi v l)(hc:Chg F w w')(hF:NoText F w)(hh:hi<=w.heap.size)(hl:∀ x∈l,x.length<=15):NeedsIn w' lo hi v l:=by
 obtain⟨vs,h1,h2,h3⟩:=h
 refine⟨vs,h1.chg hc (fun e=>by rw[e] at h2;exact h2.symm) (fun g hg _ hne f=>?_) hh,h2,fun i x hx=>by obtain⟨u,a,b⟩:=h3 i x hx;exact⟨u,a,b.chs hc hF hh⟩⟩
 cases l with
 | nil=>exact hne (List.length_eq_zero_iff.1 h2)
 | cons x l=>
  obtain⟨u,a,b⟩:=h3 0 x rfl
  obtain⟨p,c,rfl⟩:=b.form
  have:=(hF g f).2.2 _ _ _ (hg _ a)
  have:=hl x (by simp)
  omega
theorem PkVal.chg{F:Nat->Prop}{w w':World}{p:M.Pk}{v:Value}(h:PkVal w p v)(hc:Chg F w w')(hF:NoText F w)(hl:∀ x∈p.needs,x.length<=15):PkVal w' p v:=by
 obtain⟨nv,bv,fv,h1,h2,h3,h4⟩:=h
 exact⟨nv,bv,fv,h1,(h2.chg hc hF ler hl).wide ler hc.size,(h3.chs hc hF ler).wide ler hc.size,(h4.fls hc hF ler).wide ler hc.size⟩
theorem SetIn.chg{F:Nat->Prop}{w w':World}{b:Nat}{l:List M.Pk}(h:SetIn w b l)(hc:Chg F w w')(hF:NoText F w)(hl:∀ p∈l,∀ x∈p.needs,x.length<=15):SetIn w' b l:=by
 obtain⟨f,h1,h2⟩:=h
 refine⟨f,h1.block (hc.block b h1.lt (fun k=>?_)),fun p hp=>(h2 p hp).chg hc hF (hl p hp)⟩
 obtain⟨c,t,fz,e,_⟩:=(hF b k).1
 obtain⟨n,es,⟨xs,clock,h0,_⟩,_⟩:=h1
 rw[h0] at e
 cases e
theorem NoText.one{w:World}{k:Nat}{c:Array Value}{t:TypeId}{fz:Nat × Nat}(h:w.heap[k]? = some (.cells c t fz))(h1:∀ s,c[0]?≠some (.string s))(h2:∀ a n p,c[0]? = some (.slice a n p)->16<=n)(h3:t≠181:=by decide):NoText (fun i=>i=k) w:=by
 rintro i rfl
 have e:w.cell? ⟨i,0,none⟩=c[0]?:=cell_of_row w _ 0 _ _ _ h
 exact⟨⟨c,t,fz,h,h3⟩,.inr fun s=>by rw[e];exact h1 s,fun a n p=>by rw[e];exact h2 a n p⟩
theorem Secs.noText{w:World}{base:Nat}{v:Value}{l:List (List UInt8)}(h:Secs w base v l)(hl:0<l.length):NoText (fun k=>v.ownBlock=some k) w:=by
 intro k hk
 obtain⟨cur,hc⟩:=h.type k hk
 obtain⟨b,c,g,cg,rfl,_,_,_,h5,_⟩:=h.at hl
 have e:b=k:=Option.some.inj hk
 subst e
 refine⟨⟨_,_,_,hc,by decide⟩,.inr fun s=>(by rw[h5];intro e;cases e),fun a n p e=>?_⟩
 rw[h5] at e
 cases e
 omega
theorem LateIn.noText{w:World}{base:Nat}{v:Value}{l:List (Nat × List UInt8)}(h:LateIn w base v l):NoText (fun k=>v.ownBlock=some k) w:=by
 intro k hk
 obtain⟨cur,hc⟩:=h.type k hk
 have hl:0<l.length:=by
  cases l with
  | nil=>have:=h.1 rfl;rw[this] at hk;cases hk
  | cons a l=>simp
 obtain⟨b,c,g,cg,rfl,_,_,_,h5,_⟩:=late_at h hl
 have e:b=k:=Option.some.inj hk
 subst e
 rw[Nat.zero_mul] at h5
 refine⟨⟨_,_,_,hc,by decide⟩,.inr fun s=>(by rw[h5];intro e;cases e),fun a n p e=>?_⟩
 rw[h5] at e
 cases e
theorem DiskIs.noText{w:World}{d:Nat}{hv sv lv:Value}{D:M.Dk}(h:DiskIs w d hv sv lv D)(h1:16<=D.held.length)(h2:16<=D.seen.length):NoText (dFoot d hv sv lv) w:=by
 obtain⟨b,c,g,cg,ev,_⟩:=h.held.at (n:=0) (by omega)
 have hd:NoText (fun i=>i=d) w:=NoText.one h.blk (fun s e=>by subst ev;cases e) (fun a n p e=>by subst ev;cases e;exact h1)
 rintro k (hk|hk|hk|hk)
 ·exact hd k hk
 ·exact h.held.noText (by omega) k hk
 ·exact h.seen.noText (by omega) k hk
 ·exact h.late.noText k hk
theorem open_any(x d n half:Nat)(s0 hv sv lv:Value)(D:M.Dk)(l:List M.Pk)(w:World)(hR:Ready w)(hx:SessAt w x d s0)(h:DiskIs w d hv sv lv D)(hl:M.Lies D.seen n half (M.packed l))(h1:16<=n)(h2:n<=256)(hb:∀ p∈l,M.Back p)(ha:M.Apart l)(hs:M.sizeS l<=8192)(hn:l.length<=1000)(hln:∀ p∈l,∀ y∈p.needs,y.length<=15):
 Calls Tryz.prog 20 #[.pointer (some ⟨x,0,none⟩)] w fun e w'=>∃ s k b,e=.returned okV/\SessAt w' x d (.pointer (some ⟨s,0,none⟩))/\StoreAt w' s k b/\KnownAt w' k d half/\SetIn w' b l/\w.heap.size<=s/\w.heap.size<=k/\w.grownBy w' (some x):=by
 generalize hA:w.alloc (.cells okC 33)=A
 have hB:Below w.heap.size w A:=by rw[<-hA];exact(Below.refl _ w).alloc ler _
 have hr:A.heap[w.heap.size]? = some (.cells okC 33 (0,0)):=by rw[<-hA];exact heap_alloc_new w _
 have hxl:x<w.heap.size:=(ges.1 hx).1
 have hxA:A.heap[x]? = _:=(hB.block x hxl).trans hx
 have q0:A.cell? ⟨x,0,none⟩=some (.pointer (some ⟨d,0,none⟩)):=(cell_of_row A _ 0 _ _ (0,0) hxA).trans rfl
 have cO:=pOpen_any d n half hv sv lv D l A (hR.below hB) (h.below hB) hl h1 h2 hb ha hs hn
 have cP:=parts_nil
 have HX:=hid hxA
 have HRr:=hid hr
 have hAs:w.heap.size<A.heap.size:=(ges.1 hr).1
 clear hR h hx hxA hr hl
 go_enter Tryz.func20,Tryz.ntmps20
 go_wp2_with fail
 refine cO.mono ?_
 rintro e w1 ⟨s,k,b,rfl,hS,hK,hT,hsl,hkl,hB1⟩
 have hx1:w1.heap[x]? = some (.cells #[.pointer (some ⟨d,0,none⟩),s0] 61 (0,0)):=(hB1.block x (by omega)).trans HX.out
 have x1:w1.cell? ⟨x,1,none⟩=some s0:=(cell_of_row w1 _ 1 _ _ (0,0) hx1).trans rfl
 have x2:w1.frozen? ⟨x,1,none⟩=false:=frozen_of_row w1 _ _ _ _ hx1
 generalize hW1:w1.setCell ⟨x,1,none⟩ (.pointer (some ⟨s,0,none⟩))=W1
 have g1:w1.grownBy W1 (some x):=by rw[<-hW1];exact⟨rfl,rfl,rfl,by simp,fun j _ hj=>Below.heap_setCell _ _ _ _ (fun e=>hj (by rw[e]))⟩
 have k1:W1.heap[x]? = some (.cells #[.pointer (some ⟨d,0,none⟩),.pointer (some ⟨s,0,none⟩)] 61 (0,0)):=by rw[<-hW1];exact heap_setCell_same w1 x 1 _ _ _ hx1
 have hb1:b<w1.heap.size:=hT.lt
 have nt1:NoText (fun i=>i=x) w1:=NoText.one hx1 (fun s e=>by cases e) (fun a n p e=>by cases e)
 have hkx:k≠x:=by
  intro e
  rw[e] at hK
  unfold KnownAt at hK
  rw[hx1] at hK
  cases hK
 have HS:Hid (StoreAt W1 s k b/\KnownAt W1 k d half/\SetIn W1 b l):=
  ⟨(g1.block s (ges.1 hS).1 (fun e=>by have:=Option.some.inj e;omega)).trans hS,(g1.block k (ges.1 hK).1 (fun e=>hkx (Option.some.inj e))).trans hK,hT.chg (Chg.grown g1 (fun k e _=>(Option.some.inj e).symm)) nt1 hln⟩
 have HG:Hid (A.grownBy W1 (some x)):=⟨g1.os.trans hB1.os,g1.tape.trans hB1.tape,g1.output.trans hB1.output,Nat.le_trans hB1.size g1.size,fun j hj hne=>(g1.block j (Nat.lt_of_lt_of_le hj hB1.size) hne).trans (hB1.block j hj)⟩
 have HK1:=hid k1
 clear hS hK hT cO hx1 k1 g1 nt1 hkx hb1 hB1
 go_wp2_with fail
 refine(cP W1).mono ?_
 rintro e w2 ⟨rfl,hB2⟩
 clear cP x1 x2 q0 hW1
 go_upto_region 6 with fail
 generalize hW2:w2.alloc (.cells #[.int .i64 0,.int .i64 0,.int .i64 0,.string ⟨#[]⟩] 33)=W2
 have hB3:Below W1.heap.size W1 W2:=by rw[<-hW2];exact bt hB2 ((Below.refl _ w2).alloc ler _)
 obtain⟨y0,y1,y2,y3,yf⟩:=okC_cell (b:=w2.heap.size) (t:=33) (w:=W2) (by rw[<-hW2];exact heap_alloc_new w2 _)
 have hr2:W2.heap[w.heap.size]? = some (.cells okC 33 (0,0)):=(hB3.block _ (by have:=HG.out.size;omega)).trans ((HG.out.block _ hAs (fun e=>by have:=Option.some.inj e;omega)).trans HRr.out)
 obtain⟨z0,z1,z2,z3,zf⟩:=okC_cell hr2
 have HB3:=hid hB3
 have HR2:=hid hr2
 clear hB3 hB2 hr2 yf hA hW2
 go_wp2
 have G:=grown4 W2 w.heap.size (.int .i64 0) (.int .i64 0) (.int .i64 0) (.string ⟨#[]⟩)
 obtain⟨t1,t2,t3⟩:=HS.out
 have b3:=HB3.out
 have s1:StoreAt W2 s k b:=(b3.block s (ges.1 t1).1).trans t1
 have s2:KnownAt W2 k d half:=(b3.block k (ges.1 t2).1).trans t2
 have s3:SetIn W2 b l:=t3.below b3
 have s4:W2.heap[x]? = _:=(b3.block x (ges.1 HK1.out).1).trans HK1.out
 have n1:s≠w.heap.size:=fun e=>by
  unfold StoreAt at s1
  rw[e,HR2.out] at s1
  cases s1
 have n2:k≠w.heap.size:=fun e=>by
  unfold KnownAt at s2
  rw[e,HR2.out] at s2
  cases s2
 have nt2:NoText (fun i=>i=w.heap.size) W2:=NoText.one HR2.out (fun s e=>by cases e) (fun a n p e=>by cases e)
 refine bodyPost_ret (v:=okV) (by simp[results,Tryz.results20,go_sem,z0,z1,z2,z3]) rfl ⟨s,k,b,rfl,?_,?_,?_,?_,by omega,by omega,?_⟩
 ·exact(G.block x (ges.1 s4).1 (fun e=>by have:=Option.some.inj e;omega)).trans s4
 ·exact(G.block s (ges.1 s1).1 (fun e=>n1 (Option.some.inj e))).trans s1
 ·exact(G.block k (ges.1 s2).1 (fun e=>n2 (Option.some.inj e))).trans s2
 ·exact s3.chg (Chg.grown G (fun k e _=>(Option.some.inj e).symm)) nt2 hln
 ·have hg:=HG.out
  refine⟨G.os.trans (b3.os.trans (hg.os.trans hB.os)),G.tape.trans (b3.tape.trans (hg.tape.trans hB.tape)),G.output.trans (b3.output.trans (hg.output.trans hB.output)),Nat.le_trans hB.size (Nat.le_trans hg.size (Nat.le_trans b3.size G.size)),fun j hj hne=>?_⟩
  have e1:=hB.size
  have e2:=hg.size
  have e3:=b3.size
  exact(G.block j (by omega) (fun e=>by have:=Option.some.inj e;omega)).trans ((b3.block j (by omega)).trans ((hg.block j (by omega) hne).trans (hB.block j hj)))
abbrev emptyD(N:Nat):M.Dk:={ held:=List.replicate N zeros,seen:=List.replicate N zeros,late:=[],left:=-1,dead:=false }
theorem DiskAt.is_empty{w:World}{d N:Nat}{hv sv:Value}(h:DiskAt w d hv sv (.slice none 0 0) (-1) false (List.replicate N zeros) (List.replicate N zeros)):DiskIs w d hv sv (.slice none 0 0) (emptyD N):=⟨h.blk,h.held,h.seen,LateIn.none _ _,h.apart⟩
theorem new_full(n:Int)(w:World)(hR:Ready w):Calls Tryz.prog 11 #[.int .i64 n] w fun e w'=>∃ x d s k b hv sv,e=.returned (.tuple #[.pointer (some ⟨x,0,none⟩),okV])/\SessAt w' x d (.pointer (some ⟨s,0,none⟩))/\StoreAt w' s k b/\KnownAt w' k d 0/\SetIn w' b []/\
 DiskIs w' d hv sv (.slice none 0 0) (emptyD (sectorsN n))/\w.heap.size<=x/\w.heap.size<=d/\w.heap.size<=s/\w.heap.size<=k/\Below w.heap.size w w':=by
 obtain⟨m1,m2⟩:=sectorsN_le n
 generalize hA:w.alloc (.cells okC 33)=A
 have hB:Below w.heap.size w A:=by rw[<-hA];exact(Below.refl _ w).alloc ler _
 go_enter Tryz.func11,Tryz.ntmps11
 go_upto_region 2 with fail
 have hmn:min (max n 16) 256=((sectorsN n:Nat):Int):=by
  unfold sectorsN
  split
  ·omega
  ·split <;> omega
 rw[hmn]
 generalize hNn:sectorsN n=N at m1 m2 ⊢
 have HN:=hid hNn
 clear hNn
 have hr:A.heap[w.heap.size]? = some (.cells okC 33 (0,0)):=by rw[<-hA];exact heap_alloc_new w _
 have hAs:w.heap.size<A.heap.size:=(ges.1 hr).1
 have HRr:=hid hr
 have HRd:=hid (hR.below hB)
 have cD:=newDisk_any N A m2
 clear hA hr hR hmn
 go_wp2_with fail
 refine cD.mono ?_
 rintro e w1 ⟨hv,sv,rfl,hD,hB1⟩
 have HD:=hid hD
 clear cD hD
 go_upto_region 3 with fail
 generalize hX:w1.alloc (.cells #[.pointer (some ⟨A.heap.size,0,none⟩),.pointer none] 61)=X1
 have hBX:Below w1.heap.size w1 X1:=by rw[<-hX];exact(Below.refl _ w1).alloc ler _
 have hXs:SessAt X1 w1.heap.size A.heap.size (.pointer none):=by rw[<-hX];exact heap_alloc_new w1 _
 have cO:=open_any w1.heap.size A.heap.size N 0 (.pointer none) hv sv _ (emptyD N) [] X1 ((HRd.out.below hB1).below hBX) hXs (DiskAt.is_empty (HD.out.below hBX)) (M.lies_empty N m1) m1 m2 (by simp) M.apart_nil (by decide) (by simp) (by simp)
 have hXl:w1.heap.size<X1.heap.size:=(ges.1 hXs).1
 have HX1:=hid hXs
 clear hX hXs
 go_wp2_with fail
 refine cO.mono ?_
 rintro e w2 ⟨s,k,b,rfl,t1,t2,t3,t4,hs8,hk8,hG⟩
 have HT:Hid (SessAt w2 w1.heap.size A.heap.size (.pointer (some ⟨s,0,none⟩))/\StoreAt w2 s k b/\KnownAt w2 k A.heap.size 0/\SetIn w2 b []/\X1.grownBy w2 (some w1.heap.size)):=⟨t1,t2,t3,t4,hG⟩
 clear t1 t2 t3 t4 hG cO
 go_upto_region 4 with fail
 generalize hW4:w2.alloc (.cells #[.int .i64 0,.int .i64 0,.int .i64 0,.string ⟨#[]⟩] 33)=W4
 have hB4:Below w2.heap.size w2 W4:=by rw[<-hW4];exact(Below.refl _ w2).alloc ler _
 obtain⟨y0,y1,y2,y3,yf⟩:=okC_cell (b:=w2.heap.size) (t:=33) (w:=W4) (by rw[<-hW4];exact heap_alloc_new w2 _)
 obtain⟨t1,t2,t3,t4,hG⟩:=HT.out
 have hs1:=hB1.size
 have hs2:=hBX.size
 have hs3:=hG.size
 have hr4:W4.heap[w.heap.size]? = some (.cells okC 33 (0,0)):=(hB4.block _ (by omega)).trans ((hG.block _ (by omega) (fun e=>by have:=Option.some.inj e;omega)).trans ((hBX.block _ (by omega)).trans ((hB1.block _ hAs).trans HRr.out)))
 obtain⟨z0,z1,z2,z3,zf⟩:=okC_cell hr4
 have HE:Hid (SessAt W4 w1.heap.size A.heap.size (.pointer (some ⟨s,0,none⟩))/\StoreAt W4 s k b/\KnownAt W4 k A.heap.size 0/\SetIn W4 b []/\DiskAt W4 A.heap.size hv sv (.slice none 0 0) (-1) false (List.replicate N zeros) (List.replicate N zeros)/\Below w.heap.size w W4/\W4.heap[w.heap.size]? = some (.cells okC 33 (0,0))/\w.heap.size<A.heap.size/\A.heap.size<=w1.heap.size):=by
  refine⟨(hB4.block _ (ges.1 t1).1).trans t1,(hB4.block _ (ges.1 t2).1).trans t2,(hB4.block _ (ges.1 t3).1).trans t3,t4.below hB4,?_,?_,hr4,hAs,hs1⟩
  ·have d1:=HD.out.below hBX
   have hn8:∀ j,some w1.heap.size=some j->∀ cur fz,X1.heap[j]?≠some (.cells cur 5 fz):=fun j hj cur fz hh=>by
    cases hj
    have:=HX1.out
    unfold SessAt at this
    rw[this] at hh
    cases hh
   have hl:∀ v l,Secs w1 (A.heap.size+1) v l->v.ownBlock=none\/v.ownBlock≠some w1.heap.size:=fun v l h=>by
    cases hq:v.ownBlock with
    | none=>exact .inl rfl
    | some g=>exact .inr (fun e=>by have:=h.lt g hq;cases e;omega)
   have d2:DiskAt w2 A.heap.size hv sv (.slice none 0 0) (-1) false (List.replicate N zeros) (List.replicate N zeros):=
    ⟨(hG.block _ (ges.1 d1.blk).1 (fun e=>by have:=Option.some.inj e;have:=(ges.1 HD.out.blk).1;omega)).trans d1.blk,d1.held.kept hG hn8 (hl _ _ HD.out.held),d1.seen.kept hG hn8 (hl _ _ HD.out.seen),d1.apart⟩
   exact d2.below hB4
  ·refine⟨hB4.os.trans (hG.os.trans (hBX.os.trans (hB1.os.trans hB.os))),hB4.tape.trans (hG.tape.trans (hBX.tape.trans (hB1.tape.trans hB.tape))),hB4.output.trans (hG.output.trans (hBX.output.trans (hB1.output.trans hB.output))),by have:=hB.size;have:=hB4.size;omega,fun j hj=>?_⟩
   have:=hB.size
   exact(hB4.block j (by omega)).trans ((hG.block j (by omega) (fun e=>by have:=Option.some.inj e;omega)).trans ((hBX.block j (by omega)).trans ((hB1.block j (by omega)).trans (hB.block j hj))))
 clear hr4 hW4 hB4 t1 t2 t3 t4 hG hs1 hs2 hs3 yf HT HD hBX hB1 hB
 go_region
 go_wp2
 have G0:=grown4 W4 w.heap.size (.int .i64 0) (.int .i64 0) (.int .i64 0) (.string ⟨#[]⟩)
 have G:W4.grownBy (((((W4.setCell ⟨w.heap.size,0,none⟩ (.int .i64 0)).setCell ⟨w.heap.size,1,none⟩ (.int .i64 0)).setCell ⟨w.heap.size,2,none⟩ (.int .i64 0)).setCell ⟨w.heap.size,3,none⟩ (.string ⟨#[]⟩)).drew) (some w.heap.size):=⟨G0.os,G0.tape,G0.output,G0.size,G0.block⟩
 obtain⟨s4,s1,s2,s3,s5,s6,s7,s8,s9⟩:=HE.out
 have n1:s≠w.heap.size:=fun e=>by
  unfold StoreAt at s1
  rw[e,s7] at s1
  cases s1
 have n2:k≠w.heap.size:=fun e=>by
  unfold KnownAt at s2
  rw[e,s7] at s2
  cases s2
 have n3:b≠w.heap.size:=fun e=>by
  obtain⟨es,c,hh⟩:=s3.choose_spec.1.block?
  rw[e,s7] at hh
  cases hh
 refine bodyPost_ret (v:=.tuple #[.pointer (some ⟨w1.heap.size,0,none⟩),okV]) (by simp[results,Tryz.results11,go_sem,z0,z1,z2,z3]) rfl ⟨_,A.heap.size,s,k,b,hv,sv,rfl,?_,?_,?_,?_,?_,by omega,by omega,by omega,by omega,?_⟩
 ·exact(G.block _ (ges.1 s4).1 (fun e=>by have:=Option.some.inj e;omega)).trans s4
 ·exact(G.block s (ges.1 s1).1 (fun e=>n1 (Option.some.inj e))).trans s1
 ·exact(G.block k (ges.1 s2).1 (fun e=>n2 (Option.some.inj e))).trans s2
 ·exact s3.kept0 G (fun e=>n3 (Option.some.inj e))
 ·rw[HN.out]
  exact DiskAt.is_empty <| s5.kept G s8 (fun cur fz hh=>by rw[s7] at hh;cases hh)
 ·exact s6.grown G s6.size (fun j hj=>by cases hj;exact Nat.le_refl _)
theorem SessAt.chg{F:Nat->Prop}{w w':World}{x d:Nat}{sv:Value}(h:SessAt w x d sv)(hc:Chg F w w')(hn:¬ F x):SessAt w' x d sv:=(hc.block x (ges.1 h).1 hn).trans h
theorem Ready.chg{F:Nat->Prop}{w w':World}(h:Ready w)(hc:Chg F w w')(hF:∀ k,F k->1<k):Ready w':=by
 obtain⟨h1,m,h2⟩:=h
 exact⟨hc.cell h1 (fun f=>by have h3:1<0:=hF 0 f;omega),m,hc.cell h2 (fun f=>Nat.lt_irrefl _ (hF _ f))⟩
end Go.Proofs.YtgnfknjopafngabGreatDoor
