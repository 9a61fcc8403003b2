import Derived.Test.YtgnfknjopafngabGreatDoorKnaf
set_option maxRecDepth 100000
set_option maxHeartbeats 8000000
namespace Go.Proofs.YtgnfknjopafngabGreatDoor
open Go.RowKit Go.Maps
def TurnedPost(R:Sum M.Fa (List M.Pk))(Post:List M.Pk->Ending->World->Prop)(w:World)(e:Ending)(w':World):Prop:=match R with
 | .inl f=>e=.returned (faV f)/\Below w.heap.size w w'
 | .inr all=>e=.returned okV/\∃ W,Post all (.returned .nilIface) W/\Chg (fun k=>k=w.heap.size) W w'
theorem xRemove_any(x d s:Nat)(xv:Value)(a:Option Addr)(m c:Nat)(hxv:xv=.slice a m c)(R:Sum M.Fa (List M.Pk))(Post:List M.Pk->Ending->World->Prop)(w:World)(hR:Ready w)(hx:SessAt w x d (.pointer (some ⟨s,0,none⟩)))(hk:∀ f,R=.inl f->1<=f.kind/\f.kind<=8)
 (hS:∀ A,A=w.alloc (.cells okC 33)->Calls Tryz.prog 42 #[.pointer (some ⟨s,0,none⟩),xv] A (ChangedPost R Post A))
 (hP:∀ all e W,Post all e W->e=.returned .nilIface/\W.heap[w.heap.size]? = some (.cells okC 33 (0,0))):
 Calls Tryz.prog 25 #[.pointer (some ⟨x,0,none⟩),xv] w (TurnedPost R Post w):=by
 subst hxv
 have cS:=hS _ rfl
 generalize hA:w.alloc (.cells okC 33)=A at cS
 have hB:Below w.heap.size w A:=by rw[<-hA];exact(Below.refl _ w).alloc ler _
 have hr:A.heap[w.heap.size]? = some (.cells okC 33 (0,0)):=by rw[<-hA];exact heap_alloc_new w _
 have hAs:w.heap.size<A.heap.size:=(ges.1 hr).1
 have hxl:x<w.heap.size:=(ges.1 hx).1
 have q1:A.cell? ⟨x,1,none⟩=some (.pointer (some ⟨s,0,none⟩)):=(hB.cell (p:=⟨x,1,none⟩) hxl).trans ((cell_of_row w _ 1 _ _ (0,0) hx).trans rfl)
 have HRd:=hid (hR.below hB)
 have HRr:=hid hr
 have HP:=hid hP
 clear hx hr hR hS hP
 go_enter Tryz.func25,Tryz.ntmps25
 go_wp2_with fail
 refine cS.mono ?_
 intro e w1 hm
 clear cS hA q1
 cases R with
 | inl f=>
  obtain⟨hB1,ev,rfl,fb,rfl,hF⟩:=hm
  obtain⟨f1,f2⟩:=hk f rfl
  have cP:=parts_fault w1 fb f.kind f.which f.line ⟨f.name.toArray⟩ (HRd.out.below hB1).1 hF f1 f2
  clear hF
  go_wp2_with fail
  refine cP.mono ?_
  rintro e w2 ⟨rfl,hB2⟩
  have hB3:Below A.heap.size A w2:=bt hB1 hB2
  have hr2:w2.heap[w.heap.size]? = some (.cells okC 33 (0,0)):=(hB3.block _ hAs).trans HRr.out
  obtain⟨z0,z1,z2,z3,zf⟩:=okC_cell hr2
  have hB4:=bt hB hB3
  clear cP hr2 hB1 hB2 hB3
  go_wp2
  refine bodyPost_ret (v:=faV f) (by simp[results,Tryz.results25,go_sem,faV,z0,z1,z2,z3]) rfl ⟨rfl,?_⟩
  exact(((hB4.setCell (p:=⟨w.heap.size,0,none⟩) ler _).setCell (p:=⟨w.heap.size,1,none⟩) ler _).setCell (p:=⟨w.heap.size,2,none⟩) ler _).setCell (p:=⟨w.heap.size,3,none⟩) ler _
 | inr all=>
  obtain⟨he,hr1⟩:=HP.out all e w1 hm
  subst he
  have HM:=hid hm
  have cP:=parts_nil w1
  have hl1:w.heap.size<w1.heap.size:=(ges.1 hr1).1
  clear hm
  go_wp2_with fail
  refine cP.mono ?_
  rintro e w2 ⟨rfl,hB2⟩
  have hr2:w2.heap[w.heap.size]? = some (.cells okC 33 (0,0)):=(hB2.block _ hl1).trans hr1
  obtain⟨z0,z1,z2,z3,zf⟩:=okC_cell hr2
  have HB2:=hid hB2
  clear cP hr2 hB2 hr1
  go_wp2
  have G:=grown4 w2 w.heap.size (.int .i64 0) (.int .i64 0) (.int .i64 0) (.string ⟨#[]⟩)
  refine bodyPost_ret (v:=okV) (by simp[results,Tryz.results25,go_sem,z0,z1,z2,z3]) rfl ⟨rfl,w1,HM.out,?_⟩
  exact(Chg.below HB2.out).then (Chg.grown G (fun k e _=>(Option.some.inj e).symm)) (fun _ _ e=>e)
theorem xInstall_any(x d s:Nat)(xv:Value)(a:Option Addr)(m c:Nat)(hxv:xv=.slice a m c)(R:Sum M.Fa (List M.Pk))(Post:List M.Pk->Ending->World->Prop)(w:World)(hR:Ready w)(hx:SessAt w x d (.pointer (some ⟨s,0,none⟩)))(hk:∀ f,R=.inl f->1<=f.kind/\f.kind<=8)
 (hS:∀ A,A=w.alloc (.cells okC 33)->Calls Tryz.prog 39 #[.pointer (some ⟨s,0,none⟩),xv] A (ChangedPost R Post A))
 (hP:∀ all e W,Post all e W->e=.returned .nilIface/\W.heap[w.heap.size]? = some (.cells okC 33 (0,0))):
 Calls Tryz.prog 22 #[.pointer (some ⟨x,0,none⟩),xv] w (TurnedPost R Post w):=by
 subst hxv
 have cS:=hS _ rfl
 generalize hA:w.alloc (.cells okC 33)=A at cS
 have hB:Below w.heap.size w A:=by rw[<-hA];exact(Below.refl _ w).alloc ler _
 have hr:A.heap[w.heap.size]? = some (.cells okC 33 (0,0)):=by rw[<-hA];exact heap_alloc_new w _
 have hAs:w.heap.size<A.heap.size:=(ges.1 hr).1
 have hxl:x<w.heap.size:=(ges.1 hx).1
 have q1:A.cell? ⟨x,1,none⟩=some (.pointer (some ⟨s,0,none⟩)):=(hB.cell (p:=⟨x,1,none⟩) hxl).trans ((cell_of_row w _ 1 _ _ (0,0) hx).trans rfl)
 have HRd:=hid (hR.below hB)
 have HRr:=hid hr
 have HP:=hid hP
 clear hx hr hR hS hP
 go_enter Tryz.func22,Tryz.ntmps22
 go_wp2_with fail
 refine cS.mono ?_
 intro e w1 hm
 clear cS hA q1
 cases R with
 | inl f=>
  obtain⟨hB1,ev,rfl,fb,rfl,hF⟩:=hm
  obtain⟨f1,f2⟩:=hk f rfl
  have cP:=parts_fault w1 fb f.kind f.which f.line ⟨f.name.toArray⟩ (HRd.out.below hB1).1 hF f1 f2
  clear hF
  go_wp2_with fail
  refine cP.mono ?_
  rintro e w2 ⟨rfl,hB2⟩
  have hB3:Below A.heap.size A w2:=bt hB1 hB2
  have hr2:w2.heap[w.heap.size]? = some (.cells okC 33 (0,0)):=(hB3.block _ hAs).trans HRr.out
  obtain⟨z0,z1,z2,z3,zf⟩:=okC_cell hr2
  have hB4:=bt hB hB3
  clear cP hr2 hB1 hB2 hB3
  go_wp2
  refine bodyPost_ret (v:=faV f) (by simp[results,Tryz.results22,go_sem,faV,z0,z1,z2,z3]) rfl ⟨rfl,?_⟩
  exact(((hB4.setCell (p:=⟨w.heap.size,0,none⟩) ler _).setCell (p:=⟨w.heap.size,1,none⟩) ler _).setCell (p:=⟨w.heap.size,2,none⟩) ler _).setCell (p:=⟨w.heap.size,3,none⟩) ler _
 | inr all=>
  obtain⟨he,hr1⟩:=HP.out all e w1 hm
  subst he
  have HM:=hid hm
  have cP:=parts_nil w1
  have hl1:w.heap.size<w1.heap.size:=(ges.1 hr1).1
  clear hm
  go_wp2_with fail
  refine cP.mono ?_
  rintro e w2 ⟨rfl,hB2⟩
  have hr2:w2.heap[w.heap.size]? = some (.cells okC 33 (0,0)):=(hB2.block _ hl1).trans hr1
  obtain⟨z0,z1,z2,z3,zf⟩:=okC_cell hr2
  have HB2:=hid hB2
  clear cP hr2 hB2 hr1
  go_wp2
  have G:=grown4 w2 w.heap.size (.int .i64 0) (.int .i64 0) (.int .i64 0) (.string ⟨#[]⟩)
  refine bodyPost_ret (v:=okV) (by simp[results,Tryz.results22,go_sem,z0,z1,z2,z3]) rfl ⟨rfl,w1,HM.out,?_⟩
  exact(Chg.below HB2.out).then (Chg.grown G (fun k e _=>(Option.some.inj e).symm)) (fun _ _ e=>e)
def TextsDo(nb:Nat)(all:List M.Pk):Prop:=∀ wx,SetIn wx nb all->Calls Tryz.prog 138 #[.map (some nb)] wx fun e w'=>∃ a c,e=.returned (.slice a (M.textsS all).length c)/\w'.ownsRow wx.heap.size 9 1 (.slice a (M.textsS all).length c) (M.textsS all).length ((M.textsS all).map strV)/\Below wx.heap.size wx w'
theorem change_any(s k b nb d half n:Nat)(hv sv lv:Value)(D:M.Dk)(all:List M.Pk)(w:World)(hT:TextsDo nb all)(hs:StoreAt w s k b)(hk:KnownAt w k d half)(h:DiskIs w d hv sv lv D)(hsa:M.Sane n 0 D)(h1:16<=n)(h2:n<=256)(ho:half<=1)(hl:SetIn w nb all)(hn:all.length<=1000)(hf:M.secN (M.packed all).length<=(n-1) / 2)(hln:(M.packed all).length<65536)(hsd:¬ dFoot d hv sv lv s):
 Calls Tryz.prog 85 #[.pointer (some ⟨s,0,none⟩),.map (some nb),.nilIface] w fun e w'=>e=.returned .nilIface/\∃ W,Below w.heap.size w W/\∃ W',StoreAt w' s k nb/\W'.grownBy w' (some s)/\KnownAt W' k d (1-half)/\∃ lv',DiskIs W' d hv sv lv' (D.save n (1-half) (M.packed all))/\Chg (fun b=>b=k\/dFoot d hv sv lv b) W W'/\(∀ j,lv'.ownBlock=some j->lv.ownBlock=some j\/W.heap.size<=j):=by
 have hB0:Below w.heap.size w w.drew:=(Below.refl _ w).drew
 have hsl:s<w.heap.size:=(ges.1 hs).1
 have hskne:s≠k:=fun e=>by
  unfold StoreAt at hs
  unfold KnownAt at hk
  rw[e,hk] at hs
  cases hs
 have HSt:=hid hs
 have q0:w.cell? ⟨s,0,none⟩=some (.pointer (some ⟨k,0,none⟩)):=(cell_of_row w _ 0 _ _ (0,0) hs).trans rfl
 have cT:=hT w.drew (hl.below hB0)
 have HK:=hid hk
 have HD:=hid h
 have cS:=fun wx xv (hb:Below w.heap.size w wx) (hx:wx.ownsRow w.heap.size 9 1 xv (M.textsS all).length ((M.textsS all).map strV))=>kSave_any k d half n hv sv lv xv D (M.textsS all) w.heap.size wx (KnownAt.below hk hb) (h.below hb) hsa h1 h2 ho hx (by rw[M.texts_len];exact hn) hf hln
 clear hs hk h hl hT
 go_enter Tryz.func85,Tryz.ntmps85
 go_wp2
 go_region_with (first
  | (go_at_call 138;refine cT.mono ?_;rintro e w2 ⟨ta,tc,rfl,hO,hB2⟩;have hB3:Below w.heap.size w w2:=bt hB0 hB2;have q2:w2.cell? ⟨s,0,none⟩=some (.pointer (some ⟨k,0,none⟩)):=(hB3.cell (p:=⟨s,0,none⟩) hsl).trans q0;have HO:Hid _:=hO;clear hO)
  | (go_at_call 137;refine(cS _ _ hB3 HO.out).mono ?_;rintro e w3 ⟨⟨v3,rfl⟩,hk3,lv',hd3,hc3,hn3⟩))
 all_goals
  have hst3:w3.heap[s]? = some (.cells #[.pointer (some ⟨k,0,none⟩),.map (some b)] 110 (0,0)):=(hc3.block s (Nat.lt_of_lt_of_le hsl hB3.size) (fun e=>e.elim hskne hsd)).trans ((hB3.block s hsl).trans HSt.out)
  have x1:w3.cell? ⟨s,1,none⟩=some (.map (some b)):=(cell_of_row w3 _ 1 _ _ (0,0) hst3).trans rfl
  have x2:w3.frozen? ⟨s,1,none⟩=false:=frozen_of_row w3 _ _ _ _ hst3
  have HE:Hid (KnownAt w3 k d (1-half)/\DiskIs w3 d hv sv lv' (D.save n (1-half) (M.packed all))/\Chg (fun b=>b=k\/dFoot d hv sv lv b) w2 w3/\(∀ j,lv'.ownBlock=some j->lv.ownBlock=some j\/w2.heap.size<=j)):=⟨hk3,hd3,hc3,hn3⟩
  have HSe:Hid (StoreAt (w3.setCell ⟨s,1,none⟩ (.map (some nb))) s k nb):=heap_setCell_same w3 s 1 _ _ (.map (some nb)) hst3
  clear hk3 hd3 hc3 hn3 hst3
  go_wp2
  go_ret
  exact⟨rfl,w2,hB3,w3,HSe.out,setCell_grown w3 s 1 _,HE.out.1,lv',HE.out.2.1,HE.out.2.2.1,HE.out.2.2.2⟩
end Go.Proofs.YtgnfknjopafngabGreatDoor
namespace Go.Proofs.YtgnfknjopafngabGreatDoor
open Go.RowKit Go.Maps Go.Shelf
attribute [local go_sem] Oper.semAt_some
theorem texts_do(nb:Nat)(all:List M.Pk)(hn:all.length<=1000000)(hs:∀ p∈all,ReadP p):TextsDo nb all:=by
 intro wx hl
 refine(callsIn_wide (n:=4)).1 ?_
 have hq:=each_on nb (4-1) all wx hl hn hs (by decide)
 have ha:=hl.apart
 rw[M.texts_len]
 obtain⟨i0,hi0,hz0,hz1,hz2⟩:=info_parts infoStr
 refine callsIn_of_wp_marks Tryz.func138 rfl trivial ?_ rfl
 simp only[Tryz.ntmps138,List.size_toArray,List.length_cons,List.length_nil,Nat.reduceAdd,Nat.reduceSub,Array.replicate_succ,Array.replicate_zero,List.push_toArray,List.append_toArray,List.nil_append,List.cons_append]
 gi_wp2
 refine wpIn_range_on rfl (by decide) (gf:=90) (fr:=#[.map (some nb)]) (lb:=#[]) rfl trivial (enters_of Tryz.func90 (by kernel_rfl) rfl) hq (fun _ _=>trivial) ((Below.refl _ wx).alloc ler _) (fun _=>rfl)
  (fun k c W=>∃ a cap,Boxed W wx.heap.size 41 (.slice a k cap)/\W.ownsRow wx.heap.size 9 1 (.slice a k cap) k (((M.textsS all).map strV).take k)/\(∀ j,c j↔j=wx.heap.size\/(Value.slice a k cap).ownBlock=some j)/\Below wx.heap.size wx W)
  ?ia ?ic (fun j=>j=wx.heap.size) ?h0
  (fun k=>{ tmps:=#[.map (some nb),undef,.slice none 0 0,.pointer (some ⟨wx.heap.size,0,none⟩),undef,.string (txAt all k),.map (some nb),.func (.func 90) #[.map (some nb)] #[],.string (nmAt all k),.string (txAt all k),undef,undef,undef,undef,undef],defers:=[] }) ?assign ?body ?done
 case ia=>
  rintro k c W1 W2 ⟨a,cap,hbx,hrow,hc,hB⟩ hg
  simp only[World.size_alloc] at hg
  exact⟨a,cap,(hg.block _ hbx.lt (fun e=>by omega)).trans hbx,hg.own hrow (fun g hg' e=>e.2 ((hc g).2 (.inr hg'))),hc,Below.chg hB hg (fun j e=>by omega) ler⟩
 case ic=>
  rintro k c W1 j ⟨a,cap,hbx,hrow,hc,hB⟩ hj
  rcases(hc j).1 hj with rfl|e
  ·exact⟨Nat.le_refl _,hbx.lt⟩
  ·exact hrow.lt j e
 case h0=>
  exact⟨none,0,Boxed.new _ _ _,World.ownsRow_nil _ _ _ _,fun j=>⟨.inl,fun h=>h.elim id (fun e=>by cases e)⟩,(Below.refl _ wx).alloc ler _⟩
 case assign=>
  intro l k W K hK
  gi_wp2
  exact hK
 case body=>
  rintro l k c W hk ⟨a,cap,hbx,hrow,hc,hB⟩
  have hc0:=hbx.cell
  have HCe:Hid (((M.textsS all).map strV).take (k+1)=((M.textsS all).map strV).take k++[.string (txAt all k)]):=textV_take ha hk
  have hsz:=hB.size
  have hC:=hid hc
  clear hc
  gi_wp2_with (gi_at_builtin;refine wpListIn_append_own_at _ rfl _ _ 41 rfl wx.heap.size 9 i0 (.string ⟨#[]⟩) 1 16 Tryz.underlying41 hi0 hz0 hz1 hz2 rfl (by decide) _ _ _ rfl (hrow.alloc _) ⟨W.heap.size,0,none⟩ 1 1 [.string (txAt all k)] rfl rfl (one_new _ _ _) (by intro u hu;simp at hu;subst hu;rfl) (by unfold maxLen;omega) (by omega) (by simp;omega) ?_;intro v' w1 hown' hgrow _ hat;obtain⟨g',cap',rfl⟩:=ownsRow_succ hown';obtain⟨hv1,hv2,hr2,hk2,hb2⟩:=hbx.appended (by decide) hrow hsz ler hown' hgrow;have hc1:=hv1.cell;have hf1:=hv1.frozen)
  refine⟨fun j=>j=wx.heap.size\/(Value.slice (some ⟨g',0,none⟩) (k+1) cap').ownBlock=some j,⟨_,_,hv2,by rw[HCe.out];exact hr2,fun j=>Iff.rfl,hB.trans hb2⟩,?_,?_⟩
  ·exact((Chg.below ((Below.refl _ W).alloc ler _)).then (Chg.grown (F:=fun j=>(Value.slice a k cap).ownBlock=some j) hgrow (fun j e _=>e)) (fun j _ e=>(hC.out j).2 (.inr e))).then (Chg.grown (F:=fun j=>j=wx.heap.size) (setCell_grown _ _ _ _) (fun j e _=>(Option.some.inj e).symm)) (fun j _ e=>(hC.out j).2 (.inl e))
  ·rintro j (rfl|e)
   ·exact .inl ((hC.out _).2 (.inl rfl))
   ·rcases hat with h|h
    ·exact .inl ((hC.out j).2 (.inr (h.symm.trans e)))
    ·rw[h] at e
     simp at e
     omega
 case done=>
  rintro D c W hD hcD ⟨a,cap,hbx,hrow,hc,hB⟩ hK
  have hc0:=hbx.cell
  gi_wp2
  refine⟨by simp,.inl ⟨_,_,rfl,run_takeDeferred hK,?_⟩⟩
  refine⟨_,results_tmp rfl _ _ _,a,cap,rfl,?_,hB.trans (belowK_b (w:=wx) ler W D _ _ (by simp at hD;omega) hK rfl rfl)⟩
  have:=ownsRow_putObj hrow (.deferred none) hK rfl
  rwa [List.take_of_length_le (by rw[List.length_map,M.texts_len];exact Nat.le_refl _)] at this
namespace M
def Few(p:Pk):Prop:=∀ y∈p.needs,y.length<=15
theorem groups_few{l:List (List UInt8)}:∀ {r:List (List Ch)},allS groupS l=some r->∀ g∈r,g.length<=15:=by
 induction l with
 | nil=>intro r h;simp only[allS,Option.some.injEq] at h;subst h;intro c hc;cases hc
 | cons s l ih=>
  intro r h
  simp only[allS] at h
  split at h
  ·cases h
  ·rename_i c0 h0
   split at h
   ·cases h
   ·rename_i r' hr
    cases h
    intro g hg
    rcases List.mem_cons.1 hg with rfl|hg
    ·unfold groupS choicesS at h0
     split at h0
     ·cases h0
     ·split at h0
      ·rename_i hl
       cases h0
       omega
      ·cases h0
    ·exact ih hr g hg
theorem line_few{p q:Pk}{k:Nat}{s:List UInt8}(hp:Few p)(h:lineS p k s=some q):Few q:=by
 unfold lineS at h
 split at h
 ·split at h
  ·cases h
  ·cases h
   exact hp
 ·split at h
  ·split at h
   ·cases h
   ·rename_i l hl
    split at h
    ·cases h
     exact groups_few hl
    ·cases h
  ·split at h
   ·split at h
    ·cases h
    ·cases h
     exact hp
   ·split at h
    ·split at h
     ·cases h
     ·split at h
      ·cases h
       exact hp
      ·cases h
    ·cases h
theorem lines_few:∀ {l:List (List UInt8)} {k:Nat} {p q:Pk},Few p->linesS l k p=.inr q->Few q
 | [],k,p,q,hp,h=>by simp only[linesS,Sum.inr.injEq] at h;subst h;exact hp
 | s :: l,k,p,q,hp,h=>by
  simp only[linesS] at h
  split at h
  ·cases h
  ·rename_i p' hp'
   exact lines_few (line_few hp hp') h
theorem read_few{s:List UInt8}{p:Pk}(h:readS s=.inr p):Few p:=by
 unfold readS at h
 split at h
 ·cases h
 ·split at h
  ·cases h
  ·rename_i q e
   cases h
   have h0:Few emptyPk:=fun y hy=>by cases hy
   have hq:Few q:=lines_few h0 e
   exact hq
theorem Back.few{p:Pk}(h:Back p):Few p:=read_few h
end M
theorem readAll_kind:∀ (ts:List (List UInt8)) (i:Nat) (acc:List M.Pk) (f:M.Fa),M.readAllS ts i acc=.inl f->f.kind=1
 | [],i,acc,f,h=>by simp[M.readAllS] at h
 | t :: ts,i,acc,f,h=>by
  simp only[M.readAllS] at h
  cases hr:M.readS t with
  | inl n=>rw[hr] at h;cases h;rfl
  | inr p=>rw[hr] at h;exact readAll_kind ts _ _ f h
theorem addAll_kind:∀ (ps:List M.Pk) (i:Nat) (all:List M.Pk) (f:M.Fa),M.addAllS ps i all=.inl f->f.kind=2
 | [],i,acc,f,h=>by simp[M.addAllS] at h
 | p :: ps,i,acc,f,h=>by
  simp only[M.addAllS] at h
  by_cases hp:0<=M.findS acc p.name
  ·rw[if_pos hp] at h;cases h;rfl
  ·rw[if_neg hp] at h;exact addAll_kind ps _ _ f h
theorem checked_kind{there fresh all:List M.Pk}{f:M.Fa}(h:M.checkedS there fresh all=.inl f):1<=f.kind/\f.kind<=8:=by
 unfold M.checkedS at h
 split at h
 ·cases h;exact⟨by simp,by simp⟩
 ·split at h
  ·cases h;exact⟨by simp,by simp⟩
  ·split at h
   ·cases h;exact⟨by simp,by simp⟩
   ·split at h
    ·cases h;exact⟨by simp,by simp⟩
    ·cases h
theorem planned_kinds{there:List M.Pk}{T:List (List UInt8)}{f:M.Fa}(h:M.plannedS there T=.inl f):1<=f.kind/\f.kind<=8:=by
 unfold M.plannedS at h
 cases hr:M.readAllS T 0 [] with
 | inl g=>
  rw[hr] at h
  cases h
  have:=readAll_kind _ _ _ _ hr
  omega
 | inr l=>
  rw[hr] at h
  simp only at h
  cases ha:M.addAllS l 0 there with
  | inl g=>
   rw[ha] at h
   cases h
   have:=addAll_kind _ _ _ _ ha
   omega
  | inr all=>
   rw[ha] at h
   exact checked_kind h
theorem sPlan_any(s k b:Nat)(there:List M.Pk)(xv:Value)(texts:List ByteArray)(w:World)(hR:Ready w)(hs:StoreAt w s k b)(hl:SetIn w b there)(hx:TxtsIn w xv texts)(hxn:texts.length<=10000)(hxs:∀ t∈texts,t.size<=8192)(htn:there.length<=20000)(hts:∀ p∈there,ReadP p):
 Calls Tryz.prog 21 #[.pointer (some ⟨s,0,none⟩),xv] w (NamesPost (M.plannedS there (texts.map fun t=>t.data.toList)) w):=by
 have cA:=plans_any b there xv texts w hR.2 hR.1 hl hx hxn hxs htn hts
 generalize M.plannedS there (texts.map fun t=>t.data.toList)=R at cA ⊢
 have q1:w.cell? ⟨s,1,none⟩=some (.map (some b)):=(cell_of_row w _ 1 _ _ (0,0) hs).trans rfl
 clear hR hl hx hxs hts hs
 go_enter Tryz.func21,Tryz.ntmps21
 go_wp2_with fail
 refine cA.mono ?_
 rintro e w2 ⟨hB2,hm⟩
 clear cA
 cases R with
 | inl f=>
  obtain⟨ev,rfl,fb,rfl,hF⟩:=hm
  have HF:Hid (ErrIs f w2 (.iface 91 (.pointer (some ⟨fb,0,none⟩)))):=⟨fb,rfl,hF⟩
  clear hF
  go_wp2
  refine bodyPost_ret (v:=.tuple #[.slice none 0 0,.iface 91 (.pointer (some ⟨fb,0,none⟩))]) (by simp[results,Tryz.results21,go_sem]) rfl ⟨hB2,?_⟩
  exact⟨_,rfl,HF.out⟩
 | inr q=>
  obtain⟨all,l⟩:=q
  obtain⟨v,rfl,hv⟩:=hm
  have HV:=hid hv
  obtain⟨av,cv,ev⟩:=own_form hv
  subst ev
  clear hv
  go_wp2
  refine bodyPost_ret (v:=.tuple #[.slice av l.length cv,.nilIface]) (by simp[results,Tryz.results21,go_sem]) rfl ⟨hB2,?_⟩
  exact⟨_,rfl,HV.out⟩
def PlainPost(R:Sum M.Fa (List M.Pk × List (List UInt8)))(w:World)(e:Ending)(w':World):Prop:=
 Below w.heap.size w w'/\match R with
  | .inl f=>e=.returned (.tuple #[.slice none 0 0,faV f])
  | .inr (_,names)=>∃ v,e=.returned (.tuple #[v,faV M.okFa])/\StrsIn w' v (names.map fun n=>(⟨n.toArray⟩:ByteArray))
theorem own_strs{w:World}{base:Nat}{v:Value}{l:List (List UInt8)}(h:w.ownsRow base 9 1 v l.length (nmCells l)):StrsIn w v (l.map fun n=>(⟨n.toArray⟩:ByteArray)):=by
 have h1:=RowIn.own h
 rw[nm_strs] at h1
 unfold StrsIn
 rw[List.length_map]
 exact h1.wide (Nat.zero_le _) ler
theorem xPlan_any(x d s k b:Nat)(there:List M.Pk)(xv:Value)(texts:List ByteArray)(w:World)(hR:Ready w)(hx0:SessAt w x d (.pointer (some ⟨s,0,none⟩)))(hs:StoreAt w s k b)(hl:SetIn w b there)(hx:TxtsIn w xv texts)(hxn:texts.length<=10000)(hxs:∀ t∈texts,t.size<=8192)(htn:there.length<=20000)(hts:∀ p∈there,ReadP p):
 Calls Tryz.prog 12 #[.pointer (some ⟨x,0,none⟩),xv] w (PlainPost (M.plannedS there (texts.map fun t=>t.data.toList)) w):=by
 have hB0:Below w.heap.size w (w.alloc (.cells #[.int .i64 0,.int .i64 0,.int .i64 0,.string ⟨#[]⟩] 33)):=(Below.refl _ w).alloc ler _
 generalize hA:w.alloc (.cells #[.int .i64 0,.int .i64 0,.int .i64 0,.string ⟨#[]⟩] 33)=A at hB0
 have hr:A.heap[w.heap.size]? = some (.cells okC 33 (0,0)):=by rw[<-hA];exact heap_alloc_new w _
 have hAs:w.heap.size<A.heap.size:=(Array.getElem?_eq_some_iff.1 hr).1
 have hsl:s<w.heap.size:=(Array.getElem?_eq_some_iff.1 hs).1
 have hxl:x<w.heap.size:=(Array.getElem?_eq_some_iff.1 hx0).1
 have q1:A.cell? ⟨x,1,none⟩=some (.pointer (some ⟨s,0,none⟩)):=(hB0.cell (p:=⟨x,1,none⟩) hxl).trans ((cell_of_row w _ 1 _ _ (0,0) hx0).trans rfl)
 obtain⟨ax,cx,ex⟩:=hx.form
 subst ex
 have cA:=sPlan_any s k b there _ texts A (hR.below hB0) ((hB0.block s hsl).trans hs) (hl.below hB0) (hx.below hB0) hxn hxs htn hts
 have HK:Hid (∀ f,M.plannedS there (texts.map fun t=>t.data.toList)=.inl f->1<=f.kind/\f.kind<=8):=fun f h=>planned_kinds h
 generalize M.plannedS there (texts.map fun t=>t.data.toList)=R at cA HK ⊢
 have HE:Hid (ErrLaid A):=(hR.below hB0).1
 have HRr:=hid hr
 clear hR hl hx hxs hts hs hx0 hr
 go_enter Tryz.func12,Tryz.ntmps12
 go_wp2_with fail
 refine cA.mono ?_
 rintro e w1 ⟨hB1,hm⟩
 clear cA q1
 have hB2:Below w.heap.size w w1:=bt hB0 hB1
 cases R with
 | inl f=>
  obtain⟨ev,rfl,fb,rfl,hF⟩:=hm
  obtain⟨f1,f2⟩:=HK.out f rfl
  have cP:=parts_fault w1 fb f.kind f.which f.line ⟨f.name.toArray⟩ (HE.out.below hB1) hF f1 f2
  obtain⟨fk,fw,fl,fn⟩:=f
  generalize hN:(⟨fn.toArray⟩:ByteArray)=N at cP
  have HN:=hid hN
  simp only at cP
  clear hF HK f1 f2 hN
  go_wp2_with fail
  refine cP.mono ?_
  rintro e w2 ⟨rfl,hB3⟩
  clear cP
  go_wp2
  generalize hW4:w2.alloc (.cells #[Value.int .i64 fk,.int .i64 fw,.int .i64 fl,.string N] 33)=w4
  have hB4:Below w1.heap.size w1 w4:=by rw[<-hW4];exact hB3.alloc hB3.size _
  have hr4:w4.heap[w.heap.size]? = some (.cells okC 33 (0,0)):=(hB4.block _ (Nat.lt_of_lt_of_le hAs hB1.size)).trans ((hB1.block _ hAs).trans HRr.out)
  obtain⟨z0,z1,z2,z3,zf⟩:=okC_cell hr4
  have hy:∀ o u,[Value.int .i64 fk,.int .i64 fw,.int .i64 fl,.string N][o]? = some u->w4.cell? ⟨w2.heap.size,o,none⟩=some u:=fun o u hu=>by rw[<-hW4];exact new_at w2 _ _ o u hu
  have y0:=hy 0 _ rfl
  have y1:=hy 1 _ rfl
  have y2:=hy 2 _ rfl
  have y3:=hy 3 _ rfl
  have HB4:Hid (Below w.heap.size w w4):=bt hB2 hB4
  clear hy hW4 hB4 hB3 hB1 hB0 hr4
  go_region
  go_wp2
  refine bodyPost_ret (v:=.tuple #[.slice none 0 0,.agg #[.int .i64 fk,.int .i64 fw,.int .i64 fl,.string N]]) (by simp[results,Tryz.results12,go_sem,z0,z1,z2,z3]) rfl ⟨?_,?_⟩
  ·exact((((HB4.out.setCell ler _).setCell ler _).setCell ler _).setCell ler _).drew
  ·show _ = _
   unfold faV
   rw[HN.out]
 | inr q=>
  obtain⟨all,l⟩:=q
  obtain⟨v,rfl,hv⟩:=hm
  have HV:=hid hv
  obtain⟨av,cv,ev⟩:=own_form hv
  subst ev
  have cP:=parts_nil w1
  clear hv HK
  go_wp2_with fail
  refine cP.mono ?_
  rintro e w2 ⟨rfl,hB3⟩
  clear cP
  go_wp2
  generalize hW4:w2.alloc (.cells #[Value.int .i64 0,.int .i64 0,.int .i64 0,.string ⟨#[]⟩] 33)=w4
  have hB4:Below w1.heap.size w1 w4:=by rw[<-hW4];exact hB3.alloc hB3.size _
  have hr4:w4.heap[w.heap.size]? = some (.cells okC 33 (0,0)):=(hB4.block _ (Nat.lt_of_lt_of_le hAs hB1.size)).trans ((hB1.block _ hAs).trans HRr.out)
  obtain⟨z0,z1,z2,z3,zf⟩:=okC_cell hr4
  have hy:∀ o u,[Value.int .i64 0,.int .i64 0,.int .i64 0,.string ⟨#[]⟩][o]? = some u->w4.cell? ⟨w2.heap.size,o,none⟩=some u:=fun o u hu=>by rw[<-hW4];exact new_at w2 _ _ o u hu
  have y0:=hy 0 _ rfl
  have y1:=hy 1 _ rfl
  have y2:=hy 2 _ rfl
  have y3:=hy 3 _ rfl
  have HB4:Hid (Below w.heap.size w w4):=bt hB2 hB4
  have HV4:Hid (w4.ownsRow A.heap.size 9 1 (.slice av l.length cv) l.length (nmCells l)):=own_below HV.out hB4
  clear hy hW4 hB4 hB3 hB1 hB0 hr4
  go_region
  go_wp2
  refine bodyPost_ret (v:=.tuple #[.slice av l.length cv,.agg #[.int .i64 0,.int .i64 0,.int .i64 0,.string ⟨#[]⟩]]) (by simp[results,Tryz.results12,go_sem,z0,z1,z2,z3]) rfl ⟨?_,_,rfl,?_⟩
  ·exact((((HB4.out.setCell ler _).setCell ler _).setCell ler _).setCell ler _).drew
  ·have h9:=ownsRow_setCell_below (ownsRow_setCell_below (ownsRow_setCell_below (ownsRow_setCell_below HV4.out (a:=⟨w.heap.size,0,none⟩) hAs (.int .i64 0)) (a:=⟨w.heap.size,1,none⟩) hAs (.int .i64 0)) (a:=⟨w.heap.size,2,none⟩) hAs (.int .i64 0)) (a:=⟨w.heap.size,3,none⟩) hAs (.string ⟨#[]⟩)
   exact own_strs (own_below h9 (below_same _ 1))
end Go.Proofs.YtgnfknjopafngabGreatDoor
