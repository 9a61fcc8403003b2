import Derived.Test.YtgnfknjopafngabGreatDoorKnp
set_option maxRecDepth 100000
set_option maxHeartbeats 8000000
namespace Go.Proofs.YtgnfknjopafngabGreatDoor
open Go.RowKit Go.Maps
structure Stands (w w':World):Prop where
 size:w.heap.size<=w'.heap.size
 cell:∀ g o u,w.cell? ⟨g,o,none⟩=some u->w'.cell? ⟨g,o,none⟩=some u
 ty:∀ g,g<w.heap.size->StrBlk w' g->StrBlk w g
theorem Stands.of{w w':World}(h:Below w.heap.size w w'):Stands w w':=⟨h.size,fun g o _ hu=>(h.cell (p:=⟨g,o,none⟩) (World.block_lt_of_cell? _ _ hu)).trans hu,fun _ hg=>(belowS (o:=0) h hg).2⟩
theorem Stands.trans{a b c:World}(h:Stands a b)(k:Stands b c):Stands a c:=⟨Nat.le_trans h.size k.size,fun g o u hu=>k.cell g o u (h.cell g o u hu),fun g hg e=>h.ty g hg (k.ty g (Nat.lt_of_lt_of_le hg h.size) e)⟩
theorem StrMap.block?{P:Program}{K:TypeId}{w:World}{b:Nat}{l:List KV}(h:StrMap P K w b l):∃ es c,w.heap[b]? = some (.map es c):=by
 obtain⟨_,_,⟨es,c,h,_⟩,_⟩:=h
 exact⟨es,c,h⟩
theorem Stands.put{P:Program}{K:TypeId}{w w':World}{b:Nat}{l l':List KV}(h:StrMap P K w b l)(h':StrMap P K w' b l')(hg:w.grownBy w' (some b)):Stands w w':=by
 refine⟨hg.size,fun g o u hu=>?_,fun g hl ⟨c,f,e⟩=>?_⟩
 rotate_left
 ·have hne:g≠b:=by
   rintro rfl
   obtain⟨es',c3,hb'⟩:=h'.block?
   rw[hb'] at e
   cases e
  exact⟨c,f,(hg.block g hl (fun e=>hne (Option.some.inj e))).symm.trans e⟩
 have hlt:g<w.heap.size:=World.block_lt_of_cell? _ _ hu
 have hne:g≠b:=by
  rintro rfl
  obtain⟨es,c,hb⟩:=h.block?
  simp[World.cell?,hb] at hu
 exact(World.cell?_of_block (a:=⟨g,o,none⟩) (hg.block g hlt (fun e=>hne (Option.some.inj e)))).trans hu
theorem RowIn.stands{w w':World}{n:Nat}{v:Value}{xs:List Value}(h:RowIn w 0 w.heap.size v n xs)(hs:Stands w w'):RowIn w' 0 w'.heap.size v n xs:=by
 obtain h|⟨g,cap,h1,h2,h3,h4,h5⟩:=h
 ·exact .inl h
 ·exact .inr ⟨g,cap,h1,h2,h3,⟨Nat.lt_of_lt_of_le h4.1 hs.size,fun e=>h4.2 (hs.ty g h4.1 e)⟩,fun j u hj=>hs.cell _ _ _ (h5 j u hj)⟩
theorem NeedsIn.stands{w w':World}{v:Value}{l:List (List M.Ch)}(h:NeedsIn w 0 w.heap.size v l)(hs:Stands w w'):NeedsIn w' 0 w'.heap.size v l:=by
 obtain⟨vs,h1,h2,h3⟩:=h
 exact⟨vs,h1.stands hs,h2,fun i x hx=>by obtain⟨u,a,b⟩:=h3 i x hx;exact⟨u,a,b.stands hs⟩⟩
theorem PkVal.stands{w w':World}{p:M.Pk}{v:Value}(h:PkVal w p v)(hs:Stands w w'):PkVal w' p v:=by
 obtain⟨nv,bv,fv,e,h1,h2,h3⟩:=h
 exact⟨nv,bv,fv,e,h1.stands hs,h2.stands hs,h3.stands hs⟩
theorem SetIn.put{w w':World}{b:Nat}{l:List M.Pk}{p:M.Pk}{v:Value}{f:M.Pk->Value}(h1:StrMap Tryz.prog 9 w b (l.map fun p=>(p.name,f p)))(h2:∀ p∈l,PkVal w p (f p))(hp:PkVal w p v)(hn:∀ q∈l,q.name≠p.name)
 (h:StrMap Tryz.prog 9 w' b (putK (l.map fun p=>(p.name,f p)) p.name v)) (hg:w.grownBy w' (some b)):SetIn w' b (l++[p]):=by
 have hs:=Stands.put h1 h hg
 refine⟨fun q=>if q.name=p.name then v else f q,?_,fun q hq=>?_⟩
 ·refine(h.perm (put_new (fun q hq=>?_))).perm (List.Perm.of_eq ?_)
  ·obtain⟨x,hx,rfl⟩:=List.mem_map.1 hq
   exact hn x hx
  ·rw[List.map_append]
   congr 1
   ·exact List.map_congr_left (fun q hq=>by dsimp only;rw[if_neg (hn q hq)])
   ·simp
 ·rcases List.mem_append.1 hq with hq|hq
  ·dsimp only
   rw[if_neg (hn q hq)]
   exact(h2 q hq).stands hs
  ·simp at hq
   subst hq
   dsimp only
   rw[if_pos rfl]
   exact hp.stands hs
theorem zero_shape:PkShape zeroPk:=⟨_,_,_,_,_,_,_,_,_,_,_,rfl⟩
theorem look2_set{l:List M.Pk}{f:M.Pk->Value}{w:World}(ha:M.Apart l)(hv:∀ p∈l,PkVal w p (f p))(n:List UInt8):
 PkShape ((lookK (l.map fun p=>(p.name,f p)) n).getD zeroPk)/\(lookK (l.map fun p=>(p.name,f p)) n).isSome=decide (0<=M.findS l n):=by
 rcases look_set (f:=f) ha n with ⟨p,hp,e,hlk⟩|⟨hno,hlk⟩
 ·rw[hlk]
  refine⟨(hv p hp).shape,?_⟩
  rw[Option.isSome_some,eq_comm,decide_eq_true_eq]
  exact Decidable.byContradiction (fun hh=>M.find_neg.1 hh p hp e)
 ·rw[hlk]
  refine⟨zero_shape,?_⟩
  rw[Option.isSome_none,eq_comm,decide_eq_false_iff_not]
  exact M.find_neg.2 hno
theorem find_app(l k:List M.Pk)(n:List UInt8):(0<=M.findS (l++k) n)↔(0<=M.findS l n\/0<=M.findS k n):=by
 have e:∀ x:List M.Pk,(0<=M.findS x n)↔∃ p∈x,p.name=n:=fun x=>by
  refine⟨fun h=>Decidable.byContradiction (fun hh=>M.find_neg.2 (fun p hp e=>hh ⟨p,hp,e⟩) h),fun ⟨p,hp,e⟩=>Decidable.byContradiction (fun hh=>M.find_neg.1 hh p hp e)⟩
 rw[e,e,e]
 constructor
 ·rintro ⟨p,hp,h⟩
  rcases List.mem_append.1 hp with hp|hp
  ·exact .inl ⟨p,hp,h⟩
  ·exact .inr ⟨p,hp,h⟩
 ·rintro (⟨p,hp,h⟩|⟨p,hp,h⟩)
  ·exact⟨p,List.mem_append.2 (.inl hp),h⟩
  ·exact⟨p,List.mem_append.2 (.inr hp),h⟩
def AddsPost(R:Sum M.Fa (List M.Pk))(fresh:List M.Pk)(w:World)(e:Ending)(w':World):Prop:=
 Below w.heap.size w w'/\match R with
  | .inl f=>∃ ev,e=.returned (.tuple #[.map none,ev])/\ErrIs f w' ev
  | .inr _=>∃ b,e=.returned (.tuple #[.map (some b),.nilIface])/\SetIn w' b fresh
theorem add_any(b:Nat)(l fresh:List M.Pk)(v:Value)(w:World)(hl:SetIn w b l)(hv:PksIn w v fresh)(hn:fresh.length<=1000000)(hnm:∀ p∈fresh,p.name.length<=100000):
 Calls Tryz.prog 177 #[.map (some b),v] w (AddsPost (M.addAllS fresh 0 l) fresh w):=by
 have hmm:=@run_makeMap Tryz.prog
 have sz:∀ q:List UInt8,(ByteArray.mk q.toArray).size=q.length:=fun q=>by rw[<-len_data]
 obtain⟨av,cv,ev⟩:=hv.form
 subst ev
 have ha:=hl.apart
 have hbl:=hl.lt
 obtain⟨f,m1,v1⟩:=hl
 generalize hW1:w.alloc (.map #[] 0)=W1
 have hga:w.grownBy W1 none:=by rw[<-hW1];exact World.grownBy_alloc w _ none
 have HB1:Hid (Below w.heap.size w W1):=by rw[<-hW1];exact(Below.refl _ w).alloc ler _
 have hm0:StrMap Tryz.prog 9 W1 w.heap.size []:=by rw[<-hW1];exact StrMap.made w
 have HI:Hid (∀ W,Below w.heap.size w W->StrMap Tryz.prog 9 W b (l.map fun p=>(p.name,f p))):=fun W hb=>m1.below hb hbl
 have HV1:=hid v1
 have HA:=hid ha
 have HL:=hid hv
 have HN:=hid hnm
 clear ha hv m1 v1 hnm hga
 go_enter Tryz.func177,Tryz.ntmps177
 go_wp2
 go_loopw [7,8,9,10,11,12,16] (fun _ _ _ _ _ _ i wr=>∃ (k:Nat) (g:M.Pk->Value),i=.int .i64 k/\k<=fresh.length/\Below w.heap.size w wr/\Hid (StrMap Tryz.prog 9 wr w.heap.size ((fresh.take k).map fun p=>(p.name,g p)))/\Hid (∀ p∈fresh.take k,PkVal wr p (g p))/\Hid (M.addAllS (fresh.take k) 0 l=.inr (l++fresh.take k))) (fun _ _ _ _ _ _ i _=>fresh.length-(intOf i).toNat)
 case atStart=>exact⟨0,f,rfl,Nat.zero_le _,HB1.out,hm0,fun p hp=>by simp at hp,by show _ = _;rw[List.take_zero,List.append_nil];rfl⟩
 case round=>
  obtain⟨k,g,rfl,hk,hBr,HM,HG,HAdd⟩:=hrel
  by_cases hlt:k<fresh.length
  ·obtain⟨bf,of,rfl,_,hcapf,nv,bv,fv,o0,o1,o2,o3,o4,hn1,hn2,hn3⟩:=HL.out.cells hlt
   have p0:=(hBr.cell (p:=⟨bf,of+k*5,none⟩) (World.block_lt_of_cell? _ _ o0)).trans o0
   have p1:=(hBr.cell (p:=⟨bf,of+k*5+1,none⟩) (World.block_lt_of_cell? _ _ o1)).trans o1
   have p2:=(hBr.cell (p:=⟨bf,of+k*5+2,none⟩) (World.block_lt_of_cell? _ _ o2)).trans o2
   have p3:=(hBr.cell (p:=⟨bf,of+k*5+3,none⟩) (World.block_lt_of_cell? _ _ o3)).trans o3
   have p4:=(hBr.cell (p:=⟨bf,of+k*5+4,none⟩) (World.block_lt_of_cell? _ _ o4)).trans o4
   have HPV:Hid (PkVal w fresh[k] (.agg #[.string ⟨fresh[k].name.toArray⟩,.string ⟨fresh[k].ver.toArray⟩,nv,bv,fv])):=⟨nv,bv,fv,rfl,hn1,hn2,hn3⟩
   obtain⟨an,cn,en⟩:=hn1.form
   obtain⟨ab,cb,eb⟩:=hn2.form
   obtain⟨ac,cc,ec⟩:=hn3.form
   subst en eb ec
   clear o0 o1 o2 o3 o4 hn1 hn2 hn3
   have hsz:(ByteArray.mk fresh[k].name.toArray).size<=maxLen:=by rw[sz];have:=HN.out _ (List.getElem_mem hlt);unfold maxLen;omega
   have HApK:Hid (M.Apart (fresh.take k)):=by
    have:=HM.out.keys
    unfold Keys at this
    rw[List.map_map] at this
    exact this
   obtain⟨⟨a1,b1,x1,n1,c1,y1,m1,d1,z1,q1,e1,hs1⟩,hf1⟩:=look2_set HA.out HV1.out fresh[k].name
   obtain⟨⟨a2,b2,x2,n2,c2,y2,m2,d2,z2,q2,e2,hs2⟩,hf2⟩:=look2_set HApK.out HG.out fresh[k].name
   obtain⟨B1,hB1⟩:∃ B,B=decide (0<=M.findS l fresh[k].name):=⟨_,rfl⟩
   obtain⟨B2,hB2⟩:∃ B,B=decide (0<=M.findS (fresh.take k) fresh[k].name):=⟨_,rfl⟩
   have HB:Hid ((0<=M.findS (l++fresh.take k) fresh[k].name)↔(B1=true\/B2=true)):=by show _↔_;rw[find_app,hB1,hB2,decide_eq_true_eq,decide_eq_true_eq]
   rw[<-hB1] at hf1
   rw[<-hB2] at hf2
   clear hB1 hB2
   obtain⟨Y,hY⟩:∃ Y:ByteArray,Y=⟨fresh[k].name.toArray⟩:=⟨_,rfl⟩
   obtain⟨V,hV⟩:∃ V:ByteArray,V=⟨fresh[k].ver.toArray⟩:=⟨_,rfl⟩
   have hYd:Y.data.toList=fresh[k].name:=by rw[hY]
   have HYV:Hid (Y=⟨fresh[k].name.toArray⟩/\V=⟨fresh[k].ver.toArray⟩):=⟨hY,hV⟩
   rw[<-hY] at p0 hsz
   rw[<-hV] at p1
   generalize hW3:wr.alloc (.cells #[.string Y,.string V,.slice an fresh[k].needs.length cn,.slice ab fresh[k].bars.length cb,.slice ac fresh[k].files.length cc] 87)=W3
   have h3:Below wr.heap.size wr W3:=by rw[<-hW3];exact(Below.refl _ wr).alloc ler _
   have HC3:Hid (∀ j u,[Value.string Y,.string V,.slice an fresh[k].needs.length cn,.slice ab fresh[k].bars.length cb,.slice ac fresh[k].files.length cc][j]? = some u->W3.cell? ⟨wr.heap.size,j,none⟩=some u):=by rw[<-hW3];exact fun j u hu=>new_at wr _ _ j u hu
   generalize hW4:W3.alloc (.cells #[.string a1,.string b1,.slice x1 n1 c1,.slice y1 m1 d1,.slice z1 q1 e1] 87)=W4
   have h4:Below W3.heap.size W3 W4:=by rw[<-hW4];exact(Below.refl _ W3).alloc ler _
   generalize hW5:W4.alloc (.cells #[.string a2,.string b2,.slice x2 n2 c2,.slice y2 m2 d2,.slice z2 q2 e2] 87)=W5
   have h5:Below W4.heap.size W4 W5:=by rw[<-hW5];exact(Below.refl _ W4).alloc ler _
   have hr1:(Instr.lookup 108 (.map (some b)) (.string Y) true).run Tryz.prog W3=.ok (.tuple #[.agg #[.string a1,.string b1,.slice x1 n1 c1,.slice y1 m1 d1,.slice z1 q1 e1],.bool B1]) W3:=by
    rw[(HI.out W3 (bt hBr h3)).look2 Tryz.underlying9 setMap (zeroPk_run W3) hsz,hYd,hs1,hf1]
   have hr2:(Instr.lookup 108 (.map (some w.heap.size)) (.string Y) true).run Tryz.prog W4=.ok (.tuple #[.agg #[.string a2,.string b2,.slice x2 n2 c2,.slice y2 m2 d2,.slice z2 q2 e2],.bool B2]) W4:=by
    have hm:=HM.out.below (bt h3 h4) HM.out.lt
    rw[hm.look2 Tryz.underlying9 setMap (zeroPk_run W4) hsz,hYd,hs2,hf2]
   have HC4:Hid (∀ j u,[Value.string Y,.string V,.slice an fresh[k].needs.length cn,.slice ab fresh[k].bars.length cb,.slice ac fresh[k].files.length cc][j]? = some u->W4.cell? ⟨wr.heap.size,j,none⟩=some u):=fun j u hu=>(h4.cell (p:=⟨wr.heap.size,j,none⟩) (World.block_lt_of_cell? _ _ (HC3.out j u hu))).trans (HC3.out j u hu)
   have HC5:Hid (∀ j u,[Value.string Y,.string V,.slice an fresh[k].needs.length cn,.slice ab fresh[k].bars.length cb,.slice ac fresh[k].files.length cc][j]? = some u->W5.cell? ⟨wr.heap.size,j,none⟩=some u):=fun j u hu=>(h5.cell (p:=⟨wr.heap.size,j,none⟩) (World.block_lt_of_cell? _ _ (HC4.out j u hu))).trans (HC4.out j u hu)
   have r30:=HC3.out 0 _ rfl
   have r40:=HC4.out 0 _ rfl
   have r50:=HC5.out 0 _ rfl
   have r51:=HC5.out 1 _ rfl
   have r52:=HC5.out 2 _ rfl
   have r53:=HC5.out 3 _ rfl
   have r54:=HC5.out 4 _ rfl
   have H5:Hid (Below wr.heap.size wr W5):=bt h3 (bt h4 h5)
   have HYd:=hid hYd
   clear hs1 hs2 hf1 hf2 hYd hY hV h3 h4 h5
   by_cases hB:(B1 || B2)=true
   ·have HP:Hid (M.addAllS fresh 0 l=.inl ⟨2,k,0,fresh[k].name⟩):=by
     show _ = _
     have e:fresh=fresh.take k++fresh[k] :: fresh.drop (k+1):=by simp
     have h2:=M.addAll_snoc (fresh.take k) 0 l (l++fresh.take k) fresh[k] (fresh.drop (k+1)) HAdd.out
     rw[<-e,if_pos (HB.out.2 (by simpa using hB))] at h2
     rw[h2]
     simp[Nat.min_eq_left hk]
    have HEr:Hid (ErrIs ⟨2,k,0,fresh[k].name⟩ ((W5.alloc (.cells #[.int .i64 2,.int .i64 k,.int .i64 0,.string Y] 96)).drew) (.iface 91 (.pointer (some ⟨W5.heap.size,0,none⟩)))):=by
     refine⟨_,rfl,?_⟩
     rw[HYV.out.1]
     exact fault_drew (fault_new (w:=W5) 2 k 0 _ 96)
    have HB5:Hid (Below w.heap.size w W5):=bt hBr H5.out
    clear HM HG HAdd HI HL HV1 HC3 HC4 HC5 HB
    cases B1 with
    | true=>
     go_wp2
     go_region
     all_goals
      go_wp2
      refine bodyPost_ret (v:=.tuple #[.map none,.iface 91 (.pointer (some ⟨W5.heap.size,0,none⟩))]) (by simp[results,Tryz.results177,go_sem]) rfl ⟨below_drewN (HB5.out.alloc HB5.out.size _) 1,?_⟩
      rw[HP.out]
      exact⟨_,rfl,HEr.out⟩
    | false=>
     have hB2:B2=true:=by simpa using hB
     subst hB2
     go_wp2
     go_region
     all_goals
      go_wp2
      refine bodyPost_ret (v:=.tuple #[.map none,.iface 91 (.pointer (some ⟨W5.heap.size,0,none⟩))]) (by simp[results,Tryz.results177,go_sem]) rfl ⟨below_drewN (HB5.out.alloc HB5.out.size _) 1,?_⟩
      rw[HP.out]
      exact⟨_,rfl,HEr.out⟩
   ·have hb1:B1=false:=by cases B1 with|false=>rfl|true=>simp at hB
    have hb2:B2=false:=by cases B2 with|false=>rfl|true=>simp at hB
    subst hb1 hb2
    have HNew:Hid (∀ q∈fresh.take k,q.name≠fresh[k].name):=fun q hq e=>by
     have:¬ (0<=M.findS (l++fresh.take k) fresh[k].name):=fun h=>by rcases HB.out.1 h with h|h <;> cases h
     exact M.find_neg.1 this q (List.mem_append.2 (.inr hq)) e
    have HAdd2:Hid (M.addAllS (fresh.take (k+1)) 0 l=.inr (l++fresh.take (k+1))):=by
     show _ = _
     have h2:=M.addAll_snoc (fresh.take k) 0 l (l++fresh.take k) fresh[k] [] HAdd.out
     rw[if_neg (fun h=>by rcases HB.out.1 h with h|h <;> cases h)] at h2
     rw[List.take_succ_eq_append_getElem hlt,<-List.append_assoc]
     exact h2
    have hm5:StrMap Tryz.prog 9 W5 w.heap.size ((fresh.take k).map fun p=>(p.name,g p)):=HM.out.below H5.out HM.out.lt
    have hlen:((fresh.take k).map fun p=>(p.name,g p)).length<maxLen:=by rw[List.length_map,List.length_take];unfold maxLen;omega
    have HB5:Hid (Below w.heap.size w W5):=bt hBr H5.out
    have HG5:Hid (∀ p∈fresh.take k,PkVal W5 p (g p)):=fun p hp=>(HG.out p hp).below H5.out
    have HP5:Hid (PkVal W5 fresh[k] (.agg #[.string Y,.string V,.slice an fresh[k].needs.length cn,.slice ab fresh[k].bars.length cb,.slice ac fresh[k].files.length cc])):=by rw[HYV.out.1,HYV.out.2];exact HPV.out.below HB5.out
    clear HM HG HAdd HI HL HV1 HC3 HC4 HC5 HB HPV
    go_wp2_with (first|(at_mapUpdate;refine wpList_put_str rfl _ _ _ rfl Tryz.underlying9 setMap w.heap.size ((fresh.take k).map fun p=>(p.name,g p)) rfl hm5 hlen Y (.agg #[.string Y,.string V,.slice an fresh[k].needs.length cn,.slice ab fresh[k].bars.length cb,.slice ac fresh[k].files.length cc]) rfl hsz rfl ?_;intro w6 hm6 hg6;go_frame)|go_in)
    obtain⟨g2,hm7,hv7⟩:SetIn w6 w.heap.size (fresh.take k++[fresh[k]]):=SetIn.put hm5 HG5.out HP5.out HNew.out (by rw[<-HYd.out];exact hm6) hg6
    have HM7:Hid (StrMap Tryz.prog 9 w6 w.heap.size ((fresh.take (k+1)).map fun p=>(p.name,g2 p))):=by show StrMap _ _ _ _ _;rw[List.take_succ_eq_append_getElem hlt];exact hm7
    have HV7:Hid (∀ p∈fresh.take (k+1),PkVal w6 p (g2 p)):=by rw[List.take_succ_eq_append_getElem hlt];exact hv7
    have HB7:Below w.heap.size w w6:=HB5.out.grown hg6 HB5.out.size (fun j hj=>by cases hj;exact Nat.le_refl _)
    clear hm6 hm7 hv7 hg6 hm5
    go_wp2
    go_roundw
    case rel=>exact⟨k+1,g2,by go_num,by omega,HB7,HM7,HV7,HAdd2⟩
    case measure=>simp[intOf];omega
  ·have hkk:k=fresh.length:=by omega
   have HS:Hid (SetIn wr w.heap.size fresh):=by
    have h1:=HM.out
    have h2:=HG.out
    rw[hkk,List.take_length] at h1 h2
    exact⟨g,h1,h2⟩
   have HP:Hid (M.addAllS fresh 0 l=.inr (l++fresh)):=by
    have h:=HAdd.out
    rw[hkk,List.take_length] at h
    exact h
   clear hkk HM HG HAdd
   go_wp2
   refine bodyPost_ret (v:=.tuple #[.map (some w.heap.size),.nilIface]) (by simp[results,Tryz.results177,go_sem]) rfl ⟨hBr,?_⟩
   rw[HP.out]
   exact⟨_,rfl,HS.out⟩
theorem names_get{l:List M.Pk}{i:Nat}(hi:i<(M.sortN (l.map M.Pk.name)).length):∃ p∈l,p.name=(M.sortN (l.map M.Pk.name))[i]:=by
 obtain⟨p,hp,e⟩:=List.mem_map.1 ((M.sortN_perm _).mem_iff.1 (List.getElem_mem hi))
 exact⟨p,hp,e⟩
theorem first_name{l:List M.Pk}{Q:M.Pk->Prop}{m:List UInt8}(ha:M.Apart l)(hm:M.IsMin (fun x=>∃ p∈l,Q p/\x=p.name) m){i:Nat}{p:M.Pk}(hp:p∈l)(hi:(M.sortN (l.map M.Pk.name))[i]? = some p.name)(hQ:Q p)(hno:∀ q∈l,q.name∈(M.sortN (l.map M.Pk.name)).take i->¬ Q q):m=p.name:=by
 refine hm.unique ⟨hm.1,.inr ⟨⟨p,hp,hQ,rfl⟩,?_⟩⟩
 rintro x ⟨q,hq,hQq,rfl⟩
 have hr:=M.sortN_rising ha
 have hqm:q.name∈M.sortN (l.map M.Pk.name):=(M.sortN_perm _).mem_iff.2 (List.mem_map.2 ⟨q,hq,rfl⟩)
 obtain⟨j,hj,e⟩:=List.getElem_of_mem hqm
 obtain⟨hi1,hi2⟩:=List.getElem?_eq_some_iff.1 hi
 rw[<-e,<-hi2]
 rcases Nat.lt_trichotomy j i with h|h|h
 ·exact absurd hQq (hno q hq (by rw[<-e];rw[List.mem_take_iff_getElem];exact⟨j,by omega,rfl⟩))
 ·subst h;exact M.less_irrefl _
 ·exact M.less_asymm (List.pairwise_iff_getElem.1 hr i j hi1 hj h)
theorem no_name{l:List M.Pk}{Q:M.Pk->Prop}{m:List UInt8}(hm:M.IsMin (fun x=>∃ p∈l,Q p/\x=p.name) m)(hno:∀ q∈l,q.name∈M.sortN (l.map M.Pk.name)->¬ Q q):m=[]:=by
 refine hm.nil_iff.2 ?_
 rintro x ⟨p,hp,hQ,_⟩
 exact hno p hp ((M.sortN_perm _).mem_iff.2 (List.mem_map.2 ⟨p,hp,rfl⟩)) hQ
theorem field_needs(a b c d e:Value)(w:World):(Instr.field 87 (.agg #[a,b,c,d,e]) 2).run Tryz.prog w=.ok c w:=by kernel_rfl
theorem field_bars(a b c d e:Value)(w:World):(Instr.field 87 (.agg #[a,b,c,d,e]) 3).run Tryz.prog w=.ok d w:=by kernel_rfl
theorem firstLacking_any(b:Nat)(l:List M.Pk)(w:World)(hl:SetIn w b l)(hn:l.length<=1000000)(hs:∀ p∈l,ReadP p):
 Calls Tryz.prog 140 #[.map (some b)] w fun e w'=>∃ T:ByteArray,e=.returned (.string T)/\T.data.toList=M.lackingS l/\Below w.heap.size w w':=by
 have cN:=fun wx (hb:Below w.heap.size w wx)=>names_any b l wx (hl.below hb) hn
 have HL:=hid hl
 have HA:=hid hl.apart
 have HS:=hid hs
 have HMin:Hid (M.IsMin (fun x=>∃ p∈l,M.Lacks l p/\x=p.name) (M.lackingS l)):=M.lacking_min (fun p hp=>(hs p hp).name)
 have HRL:Hid ((M.sortN (l.map M.Pk.name)).length=l.length):=by show _ = _;rw[(M.sortN_perm _).length_eq,List.length_map]
 generalize hr:M.sortN (l.map M.Pk.name)=r at HRL
 have HR:=hid hr
 clear hl hs hr
 go_enter Tryz.func140,Tryz.ntmps140
 go_wp2_with fail
 refine(cN _ (Below.refl _ _)).mono ?_
 rintro e w1 ⟨v,rfl,hrow,hB1⟩
 obtain⟨a1,c1,e1⟩:=own_form hrow
 subst e1
 have HRow:Hid (RowIn w1 0 w1.heap.size (.slice a1 l.length c1) l.length (nmCells r)):=by rw[<-HR.out];exact(RowIn.own hrow).wide (Nat.zero_le _) ler
 clear cN hrow
 go_wp2
 go_loopw [4,6,8,12] (fun _ _ _ i wr=>∃ n:Nat,i=.int .i64 n/\n<=l.length/\Below w1.heap.size w1 wr/\Hid (∀ q∈l,q.name∈r.take n->¬ M.Lacks l q)) (fun _ _ _ i _=>l.length-(intOf i).toNat)
 case atStart=>exact⟨0,rfl,Nat.zero_le _,Below.refl _ _,fun q _ hq=>by simp at hq⟩
 case round=>
  obtain⟨n,rfl,hn',hBr,HQ⟩:=hrel
  by_cases hlt:n<l.length
  ·have hnr:n<r.length:=by rw[HRL.out];exact hlt
   obtain⟨p,hp,hpn⟩:∃ p∈l,p.name=r[n]:=by
    obtain⟨p,hp,e⟩:=List.mem_map.1 ((M.sortN_perm (l.map M.Pk.name)).mem_iff.1 (by rw[HR.out];exact List.getElem_mem hnr))
    exact⟨p,hp,e⟩
   obtain⟨g,rfl,hg,hcap,hc⟩:=HRow.out.cellAt (by omega)
   have c0:wr.cell? ⟨g,n,none⟩=some (.string ⟨p.name.toArray⟩):=(hBr.cell (p:=⟨g,n,none⟩) hg).trans (hc n _ (by unfold nmCells;rw[List.getElem?_map,List.getElem?_eq_getElem hnr,hpn];rfl))
   obtain⟨Y,hY⟩:∃ Y:ByteArray,Y=⟨p.name.toArray⟩:=⟨_,rfl⟩
   rw[<-hY] at c0
   have hYd:Y.data.toList=p.name:=by rw[hY]
   have hYs:Y.size<=maxLen:=by have:=(HS.out p hp).short.name;rw[size_of hYd];unfold maxLen;omega
   have HYd:=hid hYd
   have hnn:=(HS.out p hp).short.needn
   have HSp:Hid (ReadP p):=HS.out p hp
   have HNm:Hid (r[n]? = some p.name):=by show _ = _;rw[List.getElem?_eq_getElem hnr,hpn]
   obtain⟨f,hm,hv⟩:=HL.out.below (bt hB1 hBr)
   obtain⟨nv,bv,fv,ev,hN1,hN2,hN3⟩:=hv p hp
   obtain⟨an,cn,en⟩:=hN1.form
   subst en
   have hr1:(Instr.lookup 108 (.map (some b)) (.string Y) false).run Tryz.prog wr=.ok (.agg #[.string ⟨p.name.toArray⟩,.string ⟨p.ver.toArray⟩,.slice an p.needs.length cn,bv,fv]) wr:=by
    rw[hm.look Tryz.underlying9 setMap (zeroPk_run wr) hYs,hYd,(look_mem hm.keys).2 (List.mem_map.2 ⟨p,hp,rfl⟩),Option.getD_some,ev]
   have HN:=hid hN1
   clear hm hv ev hN1 hN2 hN3 hY hYd hc hpn
   obtain⟨W0,hW0⟩:∃ W,W=wr:=⟨_,rfl⟩
   subst hW0
   have hfd:=field_needs
   go_wp2
   go_step3
   go_wp2
   go_step3
   go_wp2
   clear hfd
   go_loopw [6,8,21] (fun _ _ i wr=>∃ m:Nat,i=.int .i64 m/\m<=p.needs.length/\Below W0.heap.size W0 wr/\Hid (∀ g∈p.needs.take m,M.any1S g l=true)) (fun _ _ i _=>p.needs.length-(intOf i).toNat)
   case atStart=>exact⟨0,rfl,Nat.zero_le _,Below.refl _ _,fun g hg=>by simp at hg⟩
   case round=>
    obtain⟨m,rfl,hm',hBm,HG⟩:=hrel
    by_cases hlm:m<p.needs.length
    ·have hNw:NeedsIn wr 0 wr.heap.size (.slice an p.needs.length cn) p.needs:=(HN.out.keep fun _ _ _ hg'=>belowS hBm hg').wide (Nat.zero_le _) hBm.size
     obtain⟨gn,au,cu,rfl,hgn,hcell,hrow⟩:=hNw.at m hlm
     have hncap:p.needs.length<=cn:=by
      obtain⟨vs,h1,_⟩:=hNw
      obtain⟨_,h0,_⟩|⟨g',cap,e1,e2,_⟩:=h1
      ·omega
      ·cases e1;exact e2
     have HRw:=hid hrow
     have hgl:=(HSp.out.short.needs _ (List.getElem_mem hlm)).1
     clear hNw hrow
     obtain⟨W2,hW2⟩:∃ W,W=wr:=⟨_,rfl⟩
     subst hW2
     go_wp2
     go_loopw [8,27] (fun _ i wr=>∃ j:Nat,i=.int .i64 j/\j<=p.needs[m].length/\Below W2.heap.size W2 wr/\Hid (∀ c∈p.needs[m].take j,(l.any fun q=>M.fitsS c q)=false)) (fun _ i _=>p.needs[m].length-(intOf i).toNat)
     case atStart=>exact⟨0,rfl,Nat.zero_le _,Below.refl _ _,fun c hc=>by simp at hc⟩
     case round=>
      obtain⟨j,rfl,hj',hBj,HC⟩:=hrel
      by_cases hlj:j<p.needs[m].length
      ·obtain⟨bg,rfl,hbg,hcapg,hcg⟩:=HRw.out.cellAt (by omega)
       obtain⟨k0,k1,k2⟩:=ch_cell hlj
       have q0:wr.cell? ⟨bg,j*3,none⟩=some (.string ⟨p.needs[m][j].name.toArray⟩):=(hBj.cell (p:=⟨bg,j*3,none⟩) hbg).trans (hcg _ _ k0)
       have q1:wr.cell? ⟨bg,j*3+1,none⟩=some (.string ⟨p.needs[m][j].sign.toArray⟩):=(hBj.cell (p:=⟨bg,j*3+1,none⟩) hbg).trans (hcg _ _ k1)
       have q2:wr.cell? ⟨bg,j*3+2,none⟩=some (.string ⟨p.needs[m][j].ver.toArray⟩):=(hBj.cell (p:=⟨bg,j*3+2,none⟩) hbg).trans (hcg _ _ k2)
       have hsc:=(HSp.out.short.needs _ (List.getElem_mem hlm)).2 _ (List.getElem_mem hlj)
       have hBw:Below w.heap.size w wr:=bt hB1 (bt hBr (bt hBm hBj))
       have cH:=fun wx (hb:Below wr.heap.size wr wx)=>has_any b l p.needs[m][j] wx (HL.out.below (bt hBw hb)) (fun q hq=>(HS.out q hq).smallQ.1) (HSp.out.good.needs _ (List.getElem_mem hlm) _ (List.getElem_mem hlj)) (by omega) (by omega)
       have hBa:Below wr.heap.size wr (wr.alloc (.cells #[.string ⟨p.needs[m][j].name.toArray⟩,.string ⟨p.needs[m][j].sign.toArray⟩,.string ⟨p.needs[m][j].ver.toArray⟩] 140)):=(Below.refl _ wr).alloc ler _
       have HBa:=hid hBa
       clear hcg k0 k1 k2 hsc hBa
       go_wp2_with fail
       refine(cH _ HBa.out).mono ?_
       rintro e w5 ⟨rfl,hB5⟩
       have hB6:Below wr.heap.size wr w5:=bt HBa.out hB5
       clear cH HBa hB5
       cases hB:(l.any fun q=>M.fitsS p.needs[m][j] q) with
       | true=>
        have HG2:Hid (∀ g∈p.needs.take (m+1),M.any1S g l=true):=fun g hg=>by
         rw[List.take_succ_eq_append_getElem hlm] at hg
         rcases List.mem_append.1 hg with hg|hg
         ·exact HG.out g hg
         ·simp at hg
          subst hg
          exact List.any_eq_true.2 ⟨_,List.getElem_mem hlj,hB⟩
        have hB7:Below W0.heap.size W0 w5:=bt hBm (bt hBj hB6)
        clear hB
        go_wp2
        go_roundw
        case rel=>exact⟨m+1,by go_num,by omega,hB7,HG2⟩
        case measure=>simp[intOf];omega
       | false=>
        have HC2:Hid (∀ c∈p.needs[m].take (j+1),(l.any fun q=>M.fitsS c q)=false):=fun c hc=>by
         rw[List.take_succ_eq_append_getElem hlj] at hc
         rcases List.mem_append.1 hc with hc|hc
         ·exact HC.out c hc
         ·simp at hc
          subst hc
          exact hB
        have hB7:Below W2.heap.size W2 w5:=bt hBj hB6
        clear hB
        go_wp2
        go_roundw
        case rel=>exact⟨j+1,by go_num,by omega,hB7,HC2⟩
        case measure=>simp[intOf];omega
      ·have hjj:j=p.needs[m].length:=by omega
       have HLk:Hid (M.lackingS l=p.name):=by
        refine first_name HA.out HMin.out hp (by rw[HR.out];exact HNm.out) ⟨p.needs[m],List.getElem_mem hlm,?_⟩ (by rw[HR.out];exact HQ.out)
        unfold M.any1S
        rw[List.any_eq_false]
        intro c hc
        have:=HC.out c (by rw[hjj,List.take_length];exact hc)
        rw[this]
        simp
       have hBw:Below w.heap.size w wr:=bt hB1 (bt hBr (bt hBm hBj))
       clear hjj
       go_wp2
       rw[Exit.noGoto_ret]
       go_wp2
       go_ret
       exact⟨Y,rfl,by rw[HLk.out];exact HYd.out,hBw⟩
    ·have hmm:m=p.needs.length:=by omega
     have HQ2:Hid (∀ q∈l,q.name∈r.take (n+1)->¬ M.Lacks l q):=fun q hq hqn=>by
      rw[List.take_succ_eq_append_getElem hnr] at hqn
      rcases List.mem_append.1 hqn with hqn|hqn
      ·exact HQ.out q hq hqn
      ·simp at hqn
       have e:q=p:=HA.out.eq hq hp (by
        have:=HNm.out
        rw[List.getElem?_eq_getElem hnr] at this
        rw[hqn]
        exact Option.some.inj this)
       subst e
       rintro ⟨g,hg,hno⟩
       rw[HG.out g (by rw[hmm,List.take_length];exact hg)] at hno
       cases hno
     have hB7:Below w1.heap.size w1 wr:=bt hBr hBm
     clear hmm
     go_wp2
     rw[Exit.noGoto_normal]
     go_wp2
     go_roundw
     case rel=>exact⟨n+1,by go_num,by omega,hB7,HQ2⟩
     case measure=>simp[intOf];omega
  ·have hnn:n=l.length:=by omega
   have HE:Hid (M.lackingS l=[]):=by
    refine no_name HMin.out (fun q hq hqn=>HQ.out q hq ?_)
    rw[hnn,<-HRL.out,List.take_length,<-HR.out]
    exact hqn
   have hBw:Below w.heap.size w wr:=bt hB1 hBr
   clear hnn
   go_wp2
   go_ret
   exact⟨⟨#[]⟩,rfl,by rw[HE.out],hBw⟩
theorem writeChoice_walk(N S V:ByteArray)(w:World)(hN:N.size<=8000)(hS:S.size<=8000)(hV:V.size<=8000):
 Calls Tryz.prog 70 #[.agg #[.string N,.string S,.string V]] w fun e w'=>∃ T:ByteArray,e=.returned (.string T)/\T.data.toList=M.chText ⟨N.data.toList,S.data.toList,V.data.toList⟩/\Below w.heap.size w w':=by
 by_cases h0:S.toList.isEmpty=true
 ·have HE:Hid (M.chText ⟨N.data.toList,S.data.toList,V.data.toList⟩=N.data.toList):=by
   show _ = _
   unfold M.chText
   rw[if_pos (by rw[Lib.toList_data,List.isEmpty_iff] at h0;exact h0)]
  go_enter Tryz.func70,Tryz.ntmps70
  go_wp2
  go_ret
  exact⟨N,rfl,HE.out.symm,(Below.refl _ w).alloc ler _⟩
 ·have h0':S.toList.isEmpty=false:=by simpa using h0
  have HE:Hid (M.chText ⟨N.data.toList,S.data.toList,V.data.toList⟩=N.data.toList++[32,40]++S.data.toList++[32]++V.data.toList++[41]):=by
   show _ = _
   unfold M.chText
   rw[if_neg (by rw[Lib.toList_data,List.isEmpty_iff] at h0;exact h0)]
  clear h0
  go_enter Tryz.func70,Tryz.ntmps70
  go_wp2
  go_ret
  refine⟨_,rfl,?_,(Below.refl _ w).alloc ler _⟩
  rw[HE.out]
  simp only[cat_toList]
theorem writeChoice_any(c:M.Ch)(w:World)(hN:c.name.length<=8000)(hS:c.sign.length<=8000)(hV:c.ver.length<=8000):
 Calls Tryz.prog 70 #[.agg #[.string ⟨c.name.toArray⟩,.string ⟨c.sign.toArray⟩,.string ⟨c.ver.toArray⟩]] w fun e w'=>e=.returned (.string ⟨(M.chText c).toArray⟩)/\Below w.heap.size w w':=by
 have sz:∀ l:List UInt8,(ByteArray.mk l.toArray).size=l.length:=fun l=>by rw[<-len_data]
 refine(writeChoice_walk ⟨c.name.toArray⟩ ⟨c.sign.toArray⟩ ⟨c.ver.toArray⟩ w (by rw[sz];exact hN) (by rw[sz];exact hS) (by rw[sz];exact hV)).mono fun e w' h=>?_
 obtain⟨T,h1,h2,h3⟩:=h
 refine⟨?_,h3⟩
 rw[h1]
 have:T=⟨(M.chText c).toArray⟩:=bytes_of h2
 rw[this]
theorem joinS_is(sep:List UInt8):∀ l:List (List UInt8),M.joinS sep l=Lib.join l sep
 | []=>rfl
 | [x]=>by simp[M.joinS,Lib.join,List.intercalate]
 | x :: y :: r=>by
  have ih:=joinS_is sep (y :: r)
  rw[M.joinS,ih]
  simp[Lib.join,List.intercalate]
theorem joinS_len(sep:List UInt8)(m:Nat):∀ l:List (List UInt8),(∀ x∈l,x.length<=m)->(M.joinS sep l).length<=l.length*(m+sep.length)
 | [],_=>by simp[M.joinS]
 | [x],h=>by
  have:=h x (by simp)
  simp[M.joinS]
  omega
 | x :: y :: r,h=>by
  have ih:=joinS_len sep m (y :: r) (fun z hz=>h z (by simp at hz ⊢;exact .inr hz))
  have:=h x (by simp)
  rw[M.joinS,List.length_append,List.length_append,List.length_cons,Nat.add_mul]
  omega
theorem chText_len(c:M.Ch)(hN:c.name.length<=8000)(hS:c.sign.length<=8000)(hV:c.ver.length<=8000):(M.chText c).length<=300010:=by
 unfold M.chText
 split
 ·omega
 ·simp;omega
theorem join_lib(l:List (List UInt8))(sep:ByteArray)(v:Value)(B:Nat)(w:World)(h:w.ownsRow B 9 1 v l.length (l.map strV))(hn:l.length<=1000)(hsep:sep.size<=1000)(hl:∀ x∈l,x.length<=1000000000):
 Calls Tryz.prog 73 #[v,.string sep] w fun e w'=>e=.returned (.string ⟨(M.joinS sep.data.toList l).toArray⟩)/\Below w.heap.size w w':=by
 rcases RowIn.own h with ⟨rfl,h0,_⟩|⟨g,cap,rfl,h1,h2,h3,h4⟩
 ·obtain rfl:=List.length_eq_zero_iff.mp h0
  exact(Tryz.strings_Join_none none 0 sep w).mono fun e w' h=>⟨h.1,by rw[h.2];exact Below.refl _ _⟩
 ·have em:(l.map fun q=>(⟨q.toArray⟩:ByteArray)).map (fun p=>p.data.toList)=l:=by
   rw[List.map_map]
   exact List.map_id'' (fun _=>rfl) l
  have hlen:=joinS_len sep.data.toList 1000000000 l hl
  have hsl:=len_data sep
  have hb:l.length*(1000000000+sep.data.toList.length)<=1000*(1000000000+1000):=Nat.mul_le_mul hn (by omega)
  have hc:=Tryz.strings_Join g 0 cap (l.map fun q=>⟨q.toArray⟩) sep w (fun j x hx=>by
   rw[Nat.zero_add]
   rw[List.getElem?_map] at hx
   obtain⟨q,hq,rfl⟩:=Option.map_eq_some_iff.1 hx
   exact h4 j (strV q) (by rw[List.getElem?_map,hq];rfl)) h3.1 (by simp;omega) (by simpa using h1) (by rw[em,<-joinS_is];omega)
  rw[em,<-joinS_is,List.length_map] at hc
  exact hc
theorem join_lib2(l:List (List UInt8))(sep:ByteArray)(v:Value)(B:Nat)(w:World)(h:w.ownsRow B 9 1 v l.length (l.map strV))(hn:l.length<=1000)(hlen:(M.joinS sep.data.toList l).length<=100000000000000):
 Calls Tryz.prog 73 #[v,.string sep] w fun e w'=>e=.returned (.string ⟨(M.joinS sep.data.toList l).toArray⟩)/\Below w.heap.size w w':=by
 rcases RowIn.own h with ⟨rfl,h0,_⟩|⟨g,cap,rfl,h1,h2,h3,h4⟩
 ·obtain rfl:=List.length_eq_zero_iff.mp h0
  exact(Tryz.strings_Join_none none 0 sep w).mono fun e w' h=>⟨h.1,by rw[h.2];exact Below.refl _ _⟩
 ·have em:(l.map fun q=>(⟨q.toArray⟩:ByteArray)).map (fun p=>p.data.toList)=l:=by
   rw[List.map_map]
   exact List.map_id'' (fun _=>rfl) l
  have hc:=Tryz.strings_Join g 0 cap (l.map fun q=>⟨q.toArray⟩) sep w (fun j x hx=>by
   rw[Nat.zero_add]
   rw[List.getElem?_map] at hx
   obtain⟨q,hq,rfl⟩:=Option.map_eq_some_iff.1 hx
   exact h4 j (strV q) (by rw[List.getElem?_map,hq];rfl)) h3.1 (by simp;omega) (by simpa using h1) (by rw[em,<-joinS_is];omega)
  rw[em,<-joinS_is,List.length_map] at hc
  exact hc
theorem writeChoices_any(v:Value)(l:List M.Ch)(sep:ByteArray)(w:World)(hv:RowIn w 0 w.heap.size v l.length (chsCells l))(hsh:ShortC l)(hsep:sep.size<=1000):
 Calls Tryz.prog 69 #[v,.string sep,.func (.func 70) #[] #[]] w fun e w'=>e=.returned (.string ⟨(M.printedS sep.data.toList l).toArray⟩)/\Below w.heap.size w w':=by
 obtain⟨i0,hi0,hz0,hz1,hz2⟩:=info_parts infoStr
 obtain⟨av,cv,ev⟩:=hv.form
 subst ev
 obtain⟨hn,hsh⟩:=hsh
 have HSH:=hid hsh
 have HV:=hid hv
 have eR:∀ args w,(callFunc 70 args).run Tryz.prog w=.ok (.enter 70 args) w:=enters_of Tryz.func70 (by kernel_rfl) rfl
 clear hsh hv
 go_enter Tryz.func69,Tryz.ntmps69
 go_wp2_with fail
 go_loopw [7,9,12] (fun v _ i wr=>∃ (ts:List (List UInt8)) (k:Nat),i=.int .i64 k/\k<=l.length/\ts.length=k/\wr.ownsRow w.heap.size 9 1 v k (ts.map strV)/\Below w.heap.size w wr/\Hid (ts=(l.take k).map M.chText)) (fun _ _ i _=>l.length-(intOf i).toNat)
 case atStart=>exact⟨[],0,rfl,Nat.zero_le _,rfl,World.ownsRow_nil _ _ _ _,Below.refl _ _,rfl⟩
 case round=>
  obtain⟨ts,k,rfl,hk,hlk,hown,hBr,HR⟩:=hrel
  have hsr:=hBr.size
  by_cases hlt:k<l.length
  ·obtain⟨g,rfl,hg,hcap,hc⟩:=HV.out.cellAt (by omega)
   obtain⟨k0,k1,k2⟩:=ch_cell hlt
   have hb:=HSH.out _ (List.getElem_mem hlt)
   have cx:wr.cell? ⟨g,k*3,none⟩=some (.string ⟨l[k].name.toArray⟩):=(hBr.cell (p:=⟨g,k*3,none⟩) hg).trans (hc _ _ k0)
   have cy:wr.cell? ⟨g,k*3+1,none⟩=some (.string ⟨l[k].sign.toArray⟩):=(hBr.cell (p:=⟨g,k*3+1,none⟩) hg).trans (hc _ _ k1)
   have cz:wr.cell? ⟨g,k*3+2,none⟩=some (.string ⟨l[k].ver.toArray⟩):=(hBr.cell (p:=⟨g,k*3+2,none⟩) hg).trans (hc _ _ k2)
   have cK:=fun wx=>writeChoice_any l[k] wx hb.1 hb.2.1 hb.2.2
   obtain⟨t,ht⟩:∃ t:List UInt8,t=M.chText l[k]:=⟨_,rfl⟩
   rw[<-ht] at cK
   have HT:Hid (ts++[t]=(l.take (k+1)).map M.chText):=by
    show _ = _
    rw[List.take_succ_eq_append_getElem hlt,List.map_append,ht,HR.out];rfl
   clear hc k0 k1 k2 hb ht
   go_wp2_with fail
   refine(cK _).mono ?_
   rintro e w2 ⟨rfl,hB2⟩
   clear cK
   replace hB2:Below wr.heap.size wr w2:=bt ((Below.refl _ wr).alloc ler _) hB2
   have hown2:=own_below hown hB2
   have hs2:=hB2.size
   go_wp2_with (at_builtin;refine wpList_append_own _ rfl _ _ 41 rfl w.heap.size 9 i0 (.string ⟨#[]⟩) 1 16 Tryz.underlying41 hi0 hz0 hz1 hz2 rfl (by decide) _ _ _ rfl (hown2.alloc _) ⟨w2.heap.size,0,none⟩ 1 1 [.string ⟨t.toArray⟩] rfl rfl ?c1 ?c2 ?c3 ?c4 ?c5 ?_)
   case c1=>exact one_new _ _ _
   case c2=>intro u hu;simp at hu;subst hu;rfl
   case c3=>unfold maxLen;omega
   case c4=>omega
   case c5=>simp;omega
   intro v' w3 hown' hgrow _
   have R1:w3.ownsRow w.heap.size 9 1 v' (k+1) ((ts++[t]).map strV):=by
    rw[List.map_append];exact hown'
   have R2:Below w.heap.size w w3:=
    ((hBr.trans (hB2.mono hsr)).alloc (by omega) _).grown hgrow (by simp;omega) (fun j hj=>(hown.lt j hj).1)
   clear hown' hgrow hown hown2
   go_wp2
   go_roundw
   case rel=>exact⟨_,k+1,by go_num,by omega,by simp;omega,R1,R2,HT⟩
   case measure=>simp[intOf];omega
  ·have hkk:k=l.length:=by omega
   have HR2:=HR.out
   rw[hkk,List.take_length] at HR2
   subst HR2
   have hown':=hown
   rw[<-hlk] at hown'
   have cJ:=join_lib _ sep _ _ wr hown' (by simpa using hn) hsep (fun x hx=>by
    obtain⟨c,hcm,rfl⟩:=List.mem_map.1 hx
    have:=HSH.out c hcm
    have:=chText_len c this.1 this.2.1 this.2.2
    omega)
   obtain⟨aw,cw,ew⟩:=own_form hown
   subst ew
   subst hkk
   clear hown hown' HR hlk hk hlt
   go_wp2_with fail
   refine cJ.mono ?_
   rintro e w9 ⟨rfl,hB9⟩
   go_wp2
   go_ret
   exact⟨rfl,bt hBr hB9⟩
end Go.Proofs.YtgnfknjopafngabGreatDoor
