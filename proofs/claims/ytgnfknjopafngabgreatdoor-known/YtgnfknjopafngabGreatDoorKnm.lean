import Derived.Test.YtgnfknjopafngabGreatDoorKnl
import Derived.Sort.Lot0
set_option maxRecDepth 100000
set_option maxHeartbeats 2000000
namespace Go.Proofs.YtgnfknjopafngabGreatDoor
open Go.RowKit
def ClPost(o:Option M.Pk)(pb:Nat)(w:World)(e:Ending)(w':World):Prop:=
 Below pb w w'/\match o with
  | none=>Thrown e
  | some p=>e=.returned (.tuple #[])/\QkAt w' pb p
theorem cl_none{o:Option M.Pk}{pb:Nat}{w:World}{e:Ending}{w':World}(ho:o=none)(h:Thrown e)(hb:Below pb w w'):ClPost o pb w e w':=by subst ho;exact⟨hb,h⟩
theorem cl_some{o:Option M.Pk}{pb:Nat}{w w':World}(p:M.Pk)(ho:o=some p)(h:QkAt w' pb p)(hb:Below pb w w'):ClPost o pb w (.returned (.tuple #[])) w':=by subst ho;exact⟨hb,rfl,h⟩
theorem clTitle_any(s:ByteArray)(w:World)(pb:Nat)(p:M.Pk)(hP:QkAt w pb p)(hw:MaxIs w)(hs:s.size<=100000):
 Calls Tryz.prog 111 #[.string s,.pointer (some ⟨pb,0,none⟩)] w (ClPost ((titleC s.data.toList).map fun x=>{ p with name:=x.1,ver:=x.2 }) pb w):=by
 obtain⟨B,nv,bv,fv,hP⟩:=hP
 have c1:=readTitle_any s w hw (by omega)
 have hpb:pb<w.heap.size:=Nat.lt_of_lt_of_le hP.lt hP.le
 obtain⟨O,HO0⟩:∃ O,O=(titleC s.data.toList).map fun x=>({ p with name:=x.1,ver:=x.2 }:M.Pk):=⟨_,rfl⟩
 rw[<-HO0]
 have HO:=hid HO0
 clear HO0
 cases ht:titleC s.data.toList with
 | none=>
  rw[ht] at c1
  have HE:Hid (O=none):=by show _ = _;rw[HO.out,ht];rfl
  replace c1:Calls Tryz.prog 112 #[.string s] w fun e w'=>Thrown e/\Below w.heap.size w w':=c1.mono fun e w' ⟨h1,n,h2⟩=>⟨h1,by rw[h2];exact below_same w n⟩
  clear ht HO
  go_enter Tryz.func111,Tryz.ntmps111
  go_wp2_with fail
  refine c1.mono ?_
  rintro e w' ⟨rfl,hB⟩
  go_wp2
  exact⟨rfl,cl_none HE.out rfl (hB.mono (Nat.le_of_lt hpb))⟩
 | some x=>
  rw[ht] at c1
  have HE:Hid (O=some { p with name:=x.1,ver:=x.2 }):=by show _ = _;rw[HO.out,ht];rfl
  replace c1:Calls Tryz.prog 112 #[.string s] w fun e w'=>e=.returned (.tuple #[.string ⟨x.1.toArray⟩,.string ⟨x.2.toArray⟩])/\Below w.heap.size w w':=c1.mono fun e w' ⟨h1,n,h2⟩=>⟨h1,by rw[h2];exact below_same w n⟩
  clear ht HO
  go_enter Tryz.func111,Tryz.ntmps111
  go_wp2_with fail
  refine c1.mono ?_
  rintro e w' ⟨rfl,hB⟩
  have hQ:=hP.below hB
  have q0:=hQ.c0
  have q1:=hQ.c1
  have qf:=hQ.fz
  have HQ:=hid hQ
  clear hQ hP
  go_wp2
  go_end0
  exact cl_some _ HE.out ⟨B,nv,bv,fv,HQ.out.title _ _⟩ (((hB.mono (Nat.le_of_lt hpb)).setCell ler _).setCell ler _)
theorem clNeeds_any(s:ByteArray)(w:World)(pb:Nat)(p:M.Pk)(hP:QkAt w pb p)(hf:p.files=[])(hw:MaxIs w)(hs:s.size<=100000):
 Calls Tryz.prog 113 #[.string s,.pointer (some ⟨pb,0,none⟩)] w (ClPost ((listC groupC 3 s.data.toList [44,32]).map fun x=>{ p with needs:=x }) pb w):=by
 obtain⟨B,nv,bv,fv,hP⟩:=hP
 have c1:=listGroup_any s ⟨#[44,32]⟩ 3 w hw hs (by decide)
 have hpb:pb<w.heap.size:=Nat.lt_of_lt_of_le hP.lt hP.le
 obtain⟨O,HO0⟩:∃ O,O=(listC groupC 3 s.data.toList [44,32]).map fun x=>({ p with needs:=x }:M.Pk):=⟨_,rfl⟩
 rw[<-HO0]
 have HO:=hid HO0
 clear HO0
 have el:(ByteArray.mk #[44,32]).data.toList=[44,32]:=rfl
 rw[el] at c1
 cases ht:listC groupC 3 s.data.toList [44,32] with
 | none=>
  rw[ht] at c1
  have HE:Hid (O=none):=by show _ = _;rw[HO.out,ht];rfl
  replace c1:Calls Tryz.prog 114 #[.string s,.string ⟨#[44,32]⟩,.int .i64 3,.func (.func 115) #[] #[]] w fun e w'=>Thrown e/\Below w.heap.size w w':=c1.mono fun e w' h=>⟨h.2,h.1⟩
  clear ht HO
  go_enter Tryz.func113,Tryz.ntmps113
  go_wp2_with fail
  refine c1.mono ?_
  rintro e w' ⟨rfl,hB⟩
  go_wp2
  exact⟨rfl,cl_none HE.out rfl (hB.mono (Nat.le_of_lt hpb))⟩
 | some x=>
  rw[ht] at c1
  have HE:Hid (O=some { p with needs:=x }):=by show _ = _;rw[HO.out,ht];rfl
  have HN:Hid (x≠[]):=by intro e;have:=(listC_pos ht).1;rw[e] at this;simp at this
  replace c1:Calls Tryz.prog 114 #[.string s,.string ⟨#[44,32]⟩,.int .i64 3,.func (.func 115) #[] #[]] w fun e w'=>∃ a cap,e=.returned (.slice a x.length cap)/\GrpsAt w' w.heap.size (.slice a x.length cap) x/\Below w.heap.size w w':=c1.mono fun e w' h=>by
   obtain⟨h1,u,h2,h3⟩:=h
   obtain⟨a,cap,rfl⟩:=h3.form
   exact⟨a,cap,h2,h3,h1⟩
  clear ht HO
  go_enter Tryz.func113,Tryz.ntmps113
  go_wp2_with fail
  refine c1.mono ?_
  rintro e w' ⟨a,cap,rfl,hG,hB⟩
  have hQ:=hP.below hB
  have q2:=hQ.c2
  have qf:=hQ.fz
  have HQ:=hid hP
  clear hQ hP
  go_wp2
  go_end0
  exact cl_some _ HE.out ⟨_,_,_,_,HQ.out.needs' hB hf HN.out hG⟩ ((hB.mono (Nat.le_of_lt hpb)).setCell ler _)
theorem clBars_any(s:ByteArray)(w:World)(pb:Nat)(p:M.Pk)(hP:QkAt w pb p)(hf:p.files=[])(hw:MaxIs w)(hs:s.size<=100000):
 Calls Tryz.prog 116 #[.string s,.pointer (some ⟨pb,0,none⟩)] w (ClPost ((listC choiceC 3 s.data.toList [44,32]).map fun x=>{ p with bars:=x }) pb w):=by
 obtain⟨B,nv,bv,fv,hP⟩:=hP
 have c1:=listChoice_any s ⟨#[44,32]⟩ 3 w hw hs (by decide)
 have hpb:pb<w.heap.size:=Nat.lt_of_lt_of_le hP.lt hP.le
 obtain⟨O,HO0⟩:∃ O,O=(listC choiceC 3 s.data.toList [44,32]).map fun x=>({ p with bars:=x }:M.Pk):=⟨_,rfl⟩
 rw[<-HO0]
 have HO:=hid HO0
 clear HO0
 have el:(ByteArray.mk #[44,32]).data.toList=[44,32]:=rfl
 rw[el] at c1
 cases ht:listC choiceC 3 s.data.toList [44,32] with
 | none=>
  rw[ht] at c1
  have HE:Hid (O=none):=by show _ = _;rw[HO.out,ht];rfl
  replace c1:Calls Tryz.prog 117 #[.string s,.string ⟨#[44,32]⟩,.int .i64 3,.func (.func 118) #[] #[]] w fun e w'=>Thrown e/\Below w.heap.size w w':=c1.mono fun e w' h=>⟨h.2,h.1⟩
  clear ht HO
  go_enter Tryz.func116,Tryz.ntmps116
  go_wp2_with fail
  refine c1.mono ?_
  rintro e w' ⟨rfl,hB⟩
  go_wp2
  exact⟨rfl,cl_none HE.out rfl (hB.mono (Nat.le_of_lt hpb))⟩
 | some x=>
  rw[ht] at c1
  have HE:Hid (O=some { p with bars:=x }):=by show _ = _;rw[HO.out,ht];rfl
  replace c1:Calls Tryz.prog 117 #[.string s,.string ⟨#[44,32]⟩,.int .i64 3,.func (.func 118) #[] #[]] w fun e w'=>∃ a cap,e=.returned (.slice a x.length cap)/\w'.ownsRow w.heap.size 140 3 (.slice a x.length cap) x.length (chsCells x)/\Below w.heap.size w w':=c1.mono fun e w' h=>by
   obtain⟨h1,u,h2,h3⟩:=h
   obtain⟨a,cap,rfl⟩:=own_form h3
   exact⟨a,cap,h2,h3,h1⟩
  clear ht HO
  go_enter Tryz.func116,Tryz.ntmps116
  go_wp2_with fail
  refine c1.mono ?_
  rintro e w' ⟨a,cap,rfl,hG,hB⟩
  have hQ:=hP.below hB
  have q3:=hQ.c3
  have qf:=hQ.fz
  have HQ:=hid hP
  clear hQ hP
  go_wp2
  go_end0
  exact cl_some _ HE.out ⟨_,_,_,_,HQ.out.bars' hB hf hG⟩ ((hB.mono (Nat.le_of_lt hpb)).setCell ler _)
theorem Spare.use{G:Prop}(w:World)(h:G)(_ : wpAny Tryz.prog .any #[] (fun _ _ _=>True) 0 #[] { tmps:=#[],defers:=[] } w):G:=h
theorem addC_inv{l r:List M.Fl}{t:List UInt8}(h:addC l t=some r):∃ f,r=l++[f]:=by
 unfold addC at h
 split at h
 ·cases h
 ·split at h
  ·cases h;exact⟨_,rfl⟩
  ·cases h
theorem clFiles{w wx w2:World}{pb B:Nat}{p:M.Pk}{nv bv fv v':Value}{l:List M.Fl}{t:List UInt8}(h:QAt w pb B p nv bv fv)(hb:Below w.heap.size w wx)(hg:wx.grownBy w2 fv.ownBlock)(ha:addC p.files t=some l)
 (ho:w2.ownsRow B 144 2 v' l.length (flsCells l)):QAt (w2.setCell ⟨pb,4,none⟩ v') pb B { p with files:=l } nv bv v':=by
 obtain⟨f,rfl⟩:=addC_inv ha
 rw[flsCells_snoc,List.length_append] at ho
 exact h.files' (X:=⟨f.path.toArray⟩) (Y:=⟨f.content.toArray⟩) hb hg ho
theorem clBelow{w wx w2:World}{pb B:Nat}{p:M.Pk}{nv bv fv:Value}(h:QAt w pb B p nv bv fv)(hb:Below w.heap.size w wx)(hg:wx.grownBy w2 fv.ownBlock):Below pb w w2:=by
 have h1:=h.lt
 have h2:=h.le
 exact(hb.mono (by omega)).grown hg (by have:=hb.size;omega) (fun j hj=>by have:=(h.files.lt j hj).1;omega)
theorem fileS_len{t:List UInt8}{f:M.Fl}(h:fileC t=some f):f.path.length<=t.length:=by
 unfold fileC at h
 split at h
 ·cases h;exact(cut_len t 61).1
 ·cases h
theorem clFile_any(s:ByteArray)(w:World)(pb:Nat)(p:M.Pk)(hP:QkAt w pb p)(hl:p.files.length<=1000000)(hsh:∀ f∈p.files,f.path.length<=100000)(hw:MaxIs w)(hs:s.size<=100000):
 Calls Tryz.prog 119 #[.string s,.pointer (some ⟨pb,0,none⟩)] w (ClPost ((addC p.files s.data.toList).map fun x=>{ p with files:=x }) pb w):=by
 obtain⟨B,nv,bv,fv,hP⟩:=hP
 have c1:=readFile_any s w.drew (hw.drewN 1) hs
 have hpb:pb<w.heap.size:=Nat.lt_of_lt_of_le hP.lt hP.le
 obtain⟨O,HO0⟩:∃ O,O=(addC p.files s.data.toList).map fun x=>({ p with files:=x }:M.Pk):=⟨_,rfl⟩
 rw[<-HO0]
 have HO:=hid HO0
 clear HO0
 have q4:=hP.c4
 have HP:=hid hP
 obtain⟨af,cf,ef⟩:=own_form hP.files
 subst ef
 have hBd:Below w.heap.size w w.drew:=below_same w 1
 clear hP
 cases ht:fileC s.data.toList with
 | none=>
  have HE:Hid (O=none):=by show _ = _;rw[HO.out];unfold addC;rw[ht];rfl
  replace c1:Calls Tryz.prog 121 #[.string s] w.drew fun e w'=>Thrown e/\Below w.heap.size w w':=c1.mono fun e w' h=>⟨by rw[ht] at h;exact h.1,bt hBd h.2⟩
  clear ht HO
  go_enter Tryz.func119,Tryz.ntmps119
  go_region_with (go_at_call 121;refine c1.mono ?_;rintro e w' ⟨rfl,hB⟩;refine Spare.use w' ⟨rfl,cl_none HE.out rfl (hB.mono (Nat.le_of_lt hpb))⟩ ?_)
  all_goals trivial
 | some f=>
  obtain⟨P,C⟩:=f
  have hPl:(ByteArray.mk P.toArray).size<=100000:=by
   have:=fileS_len ht
   have h2:=len_data s
   have h3:(ByteArray.mk P.toArray).size=P.length:=by rw[<-len_data]
   have h4:P.length<=s.data.toList.length:=this
   omega
  have HA:Hid (addC p.files s.data.toList=if p.files.length<4/\(p.files.any fun g=>clashS P g.path)=false then some (p.files++[⟨P,C⟩]) else none):=by
   show _ = _
   unfold addC
   rw[ht]
  replace c1:Calls Tryz.prog 121 #[.string s] w.drew fun e w'=>e=.returned (.agg #[.string ⟨P.toArray⟩,.string ⟨C.toArray⟩])/\Below w.heap.size w w':=c1.mono fun e w' h=>⟨by rw[ht] at h;exact h.1,bt hBd h.2⟩
  have c2:=fun w' (hb:Below w.heap.size w w')=>addFile_any p.files ⟨P.toArray⟩ ⟨C.toArray⟩ B (.slice af p.files.length cf) w' hPl hl (by have:=HP.out.le;have:=hb.size;omega) (own_below HP.out.files hb) hsh
  have c3:∀ w',Below w.heap.size w w'->Calls Tryz.prog 120 #[.slice af p.files.length cf,.agg #[.string ⟨P.toArray⟩,.string ⟨C.toArray⟩]] w' (AddPost (addC p.files s.data.toList) B (.slice af p.files.length cf) w'):=fun w' hb=>by rw[HA.out];exact c2 w' hb
  clear c2 ht HA
  cases hadd:addC p.files s.data.toList with
  | none=>
   have HE:Hid (O=none):=by show _ = _;rw[HO.out,hadd];rfl
   replace c3:∀ w',Below w.heap.size w w'->Calls Tryz.prog 120 #[.slice af p.files.length cf,.agg #[.string ⟨P.toArray⟩,.string ⟨C.toArray⟩]] w' fun e w2=>Thrown e/\Below w.heap.size w w2:=fun w' hb=>(c3 w' hb).mono fun e w2 h=>by
    rw[hadd] at h
    exact⟨h.1,bt hb h.2⟩
   clear hadd HO
   go_enter Tryz.func119,Tryz.ntmps119
   go_region_with (first|(go_at_call 121;refine c1.mono ?_;rintro e w' ⟨rfl,hB⟩;have r4:=(hB.cell (p:=⟨pb,4,none⟩) hpb).trans q4)|(go_at_call 120;refine(c3 _ hB).mono ?_;rintro e w2 ⟨rfl,hB2⟩;refine Spare.use w2 ⟨rfl,cl_none HE.out rfl (hB2.mono (Nat.le_of_lt hpb))⟩ ?_))
   all_goals trivial
  | some l=>
   have HE:Hid (O=some { p with files:=l }):=by show _ = _;rw[HO.out,hadd];rfl
   have HA:=hid hadd
   replace c3:∀ w',Below w.heap.size w w'->Calls Tryz.prog 120 #[.slice af p.files.length cf,.agg #[.string ⟨P.toArray⟩,.string ⟨C.toArray⟩]] w' fun e w2=>∃ av cv wx,e=.returned (.slice av l.length cv)/\w2.ownsRow B 144 2 (.slice av l.length cv) l.length (flsCells l)/\Below w.heap.size w wx/\wx.grownBy w2 (Value.slice af p.files.length cf).ownBlock:=fun w' hb=>(c3 w' hb).mono fun e w2 h=>by
    rw[hadd] at h
    obtain⟨v',wx,h1,h2,h3,h4⟩:=h
    obtain⟨av,cv,rfl⟩:=own_form h2
    exact⟨av,cv,wx,h1,h2,bt hb h3,h4⟩
   clear hadd HO
   go_enter Tryz.func119,Tryz.ntmps119
   go_region_with (first|(go_at_call 121;refine c1.mono ?_;rintro e w' ⟨rfl,hB⟩;have r4:=(hB.cell (p:=⟨pb,4,none⟩) hpb).trans q4)|(go_at_call 120;refine(c3 _ hB).mono ?_;rintro e w2 ⟨av,cv,wx,rfl,ho,hBx,hgr⟩;have r5:=((HP.out.grown hBx hgr).1 pb 4 HP.out.lt).1.1.trans q4;have r6:=((HP.out.grown hBx hgr).1 pb 4 HP.out.lt).2.trans (HP.out.fz 4)))
   all_goals
    go_end0
    refine cl_some _ HE.out ⟨B,nv,bv,_,clFiles HP.out hBx hgr HA.out ho⟩ ?_
    exact(clBelow HP.out hBx hgr).setCell ler _
structure RAt (w:World) (rb lb:Nat) (ps:List ByteArray) (k:Nat):Prop where
 c0:w.cell? ⟨rb,0,none⟩=some (.slice (some ⟨lb,0,none⟩) ps.length ps.length)
 c1:w.cell? ⟨rb,1,none⟩=some (.int .i64 ((k:Int)+1))
 fz:∀ o,w.frozen? ⟨rb,o,none⟩=false
 cl:∀ j (h:j<ps.length),w.cell? ⟨lb,j,none⟩=some (.string ps[j])
 lt:rb<lb
 le:lb<w.heap.size
 kl:k<=ps.length
theorem RAt.below{w w':World}{rb lb k pb:Nat}{ps:List ByteArray}(h:RAt w rb lb ps k)(hb:Below pb w w')(hp:lb<pb):RAt w' rb lb ps k:=by
 have hrb:rb<pb:=Nat.lt_trans h.lt hp
 refine⟨(hb.cell (p:=⟨rb,0,none⟩) hrb).trans h.c0,(hb.cell (p:=⟨rb,1,none⟩) hrb).trans h.c1,fun o=>(hb.frozen (p:=⟨rb,o,none⟩) hrb).trans (h.fz o),fun j hj=>(hb.cell (p:=⟨lb,j,none⟩) hp).trans (h.cl j hj),h.lt,?_,h.kl⟩
 exact Nat.lt_of_lt_of_le h.le hb.size
theorem RAt.next{w:World}{rb lb k:Nat}{ps:List ByteArray}(h:RAt w rb lb ps k)(hk:k<ps.length):RAt (w.setCell ⟨rb,1,none⟩ (.int .i64 ((k:Int)+1+1))) rb lb ps (k+1):=by
 have hne:lb≠rb:=by have:=h.lt;omega
 refine⟨?_,?_,fun o=>?_,fun j hj=>?_,h.lt,?_,hk⟩
 ·rw[setC_off _ _ _ _ _ (by decide)];exact h.c0
 ·rw[World.cell?_setCell_same _ _ _ h.c1];rfl
 ·rw[World.frozen?_setCell];exact h.fz o
 ·rw[setC_blk _ _ _ _ _ _ hne];exact h.cl j hj
 ·rw[setC_size];exact h.le
def takeS(T:List UInt8)(st:List UInt8->Option M.Pk)(ls:List (List UInt8))(k:Nat)(p:M.Pk):Option (Bool × Nat × M.Pk):=match ls[k]? with
 | none=>some (false,k,p)
 | some s=>if Lib.hasPrefix s T=true then (match st (s.drop T.length) with
  | none=>none
  | some q=>some (true,k+1,q))
  else some (false,k,p)
def KeepB(w w':World)(rb pb:Nat):Prop:=∀ g o,g<pb->g≠rb->w'.cell? ⟨g,o,none⟩=w.cell? ⟨g,o,none⟩/\w'.frozen? ⟨g,o,none⟩=w.frozen? ⟨g,o,none⟩
theorem KeepB.below{w w':World}{rb pb:Nat}(h:Below pb w w'):KeepB w w' rb pb:=fun g o hg _=>⟨h.cell (p:=⟨g,o,none⟩) hg,h.frozen (p:=⟨g,o,none⟩) hg⟩
theorem KeepB.set{w w':World}{rb pb o:Nat}{v:Value}(h:KeepB w w' rb pb):KeepB w (w'.setCell ⟨rb,o,none⟩ v) rb pb:=fun g o' hg hne=>⟨(setC_blk _ _ _ _ _ _ hne).trans (h g o' hg hne).1,by rw[World.frozen?_setCell];exact(h g o' hg hne).2⟩
def TakePost(o:Option (Bool × Nat × M.Pk))(rb lb pb:Nat)(ps:List ByteArray)(w:World)(e:Ending)(w':World):Prop:=match o with
 | none=>Thrown e/\Below pb w w'
 | some (b,k,p)=>e=.returned (.bool b)/\RAt w' rb lb ps k/\QkAt w' pb p/\Below rb w w'/\KeepB w w' rb pb
theorem QkAt.below{w w':World}{pb:Nat}{p:M.Pk}(h:QkAt w pb p)(hb:Below w.heap.size w w'):QkAt w' pb p:=by
 obtain⟨B,nv,bv,fv,h⟩:=h
 exact⟨B,nv,bv,fv,h.below hb⟩
theorem QkAt.lt{w:World}{pb:Nat}{p:M.Pk}(h:QkAt w pb p):pb<w.heap.size:=by
 obtain⟨B,nv,bv,fv,h⟩:=h
 exact Nat.lt_of_lt_of_le h.lt h.le
theorem QkAt.set{w:World}{pb b o:Nat}{p:M.Pk}{v:Value}(h:QkAt w pb p)(hb:b<pb):QkAt (w.setCell ⟨b,o,none⟩ v) pb p:=by
 obtain⟨B,nv,bv,fv,h⟩:=h
 have hlt:=h.lt
 have kk:∀ g o',pb<=g->CellS w (w.setCell ⟨b,o,none⟩ v) g o':=fun g o' hg=>setS (by omega)
 refine⟨B,nv,bv,fv,(kk pb 0 ler).1.trans h.c0,(kk pb 1 ler).1.trans h.c1,(kk pb 2 ler).1.trans h.c2,(kk pb 3 ler).1.trans h.c3,(kk pb 4 ler).1.trans h.c4,fun o'=>by rw[World.frozen?_setCell];exact h.fz o',hlt,by rw[setC_size];exact h.le,h.needs.keep fun g o' hg _=>kk g o' (by omega),h.bars.keep fun g o' hg _=>kk g o' (by omega),ownsRow_setCell_below h.files (show b<B by omega) _,h.nnil,h.fnil⟩
theorem take_end(T:ByteArray)(fv:Value)(w:World)(rb lb:Nat)(ps:List ByteArray)(k:Nat)(hR:RAt w rb lb ps k)(hk:k=ps.length):
 Calls Tryz.prog 110 #[.pointer (some ⟨rb,0,none⟩),.string T,fv] w fun e w'=>e=.returned (.bool false)/\Below w.heap.size w w':=by
 have q0:=hR.c0
 have q1:=hR.c1
 have hgt:(ps.length:Int)<(k:Int)+1:=by omega
 clear hR
 go_enter Tryz.func110,Tryz.ntmps110
 go_wp2
 go_quiet (fail)
 go_wp2
 go_ret
 exact⟨rfl,below_same w _⟩
theorem take_miss(T:ByteArray)(fv:Value)(w:World)(rb lb:Nat)(ps:List ByteArray)(k:Nat)(hR:RAt w rb lb ps k)(hk:k<ps.length)(hl:ps.length<=100000)(hp:Lib.hasPrefix ps[k].data.toList T.data.toList=false):
 Calls Tryz.prog 110 #[.pointer (some ⟨rb,0,none⟩),.string T,fv] w fun e w'=>e=.returned (.bool false)/\Below w.heap.size w w':=by
 have q0:=hR.c0
 have q1:=hR.c1
 have q2:=hR.cl k hk
 have hgt:¬ (ps.length:Int)<(k:Int)+1:=by omega
 obtain⟨A,hA⟩:=bytes_ex (Lib.trimPrefix ps[k].data.toList T.data.toList)
 have cP:=fun wx=>prefix_lib ps[k] T A _ wx hA.symm hp
 clear hR hp hA
 go_enter Tryz.func110,Tryz.ntmps110
 go_wp2
 go_quiet (fail)
 go_wp2
 go_quiet ((go_at_call 159;go_must (exact quiet_add (cP _))))
 go_wp2
 go_ret
 exact⟨rfl,below_drewN (Below.refl _ w) _⟩
theorem take_hit(T A:ByteArray)(f:FuncId)(O:Option M.Pk)(w:World)(rb lb pb:Nat)(ps:List ByteArray)(k:Nat)(hR:RAt w rb lb ps k)(hk:k<ps.length)(hl:ps.length<=100000)(hlp:lb<pb)(hpw:pb<=w.heap.size)
 (cP:∀ wx,Calls Tryz.prog 159 #[.string ps[k],.string T] wx fun e w'=>e=.returned (.tuple #[.string A,.bool true])/\w'=wx)
 (he:∀ args w,(callFunc f args).run Tryz.prog w=.ok (.enter f args) w)
 (cF:∀ wx,Below w.heap.size w wx->Calls Tryz.prog f #[.string A,.pointer (some ⟨pb,0,none⟩)] wx (ClPost O pb wx)):
 Calls Tryz.prog 110 #[.pointer (some ⟨rb,0,none⟩),.string T,.func (.func f) #[] #[.pointer (some ⟨pb,0,none⟩)]] w (TakePost (O.map fun q=>(true,k+1,q)) rb lb pb ps w):=by
 have q0:=hR.c0
 have q1:=hR.c1
 have q2:=hR.cl k hk
 have HR:=hid hR
 have hgt:¬ (ps.length:Int)<(k:Int)+1:=by omega
 have hrb:rb<pb:=Nat.lt_trans hR.lt hlp
 clear hR
 obtain⟨O2,HO0⟩:∃ O2,O2=O.map fun q=>(true,k+1,q):=⟨_,rfl⟩
 rw[<-HO0]
 have HO:=hid HO0
 clear HO0
 cases O with
 | none=>
  replace cF:∀ wx,Below w.heap.size w wx->Calls Tryz.prog f #[.string A,.pointer (some ⟨pb,0,none⟩)] wx fun e w'=>Thrown e/\Below pb wx w':=fun wx hb=>(cF wx hb).mono fun e w' h=>⟨h.2,h.1⟩
  go_enter Tryz.func110,Tryz.ntmps110
  go_wp2
  go_quiet (fail)
  go_wp2
  go_quiet ((go_at_call 159;go_must (exact quiet_add (cP _))))
  go_wp2_with (go_at_fn f;refine(cF _ (below_drewN (Below.refl _ w) _)).mono ?_;rintro e w' ⟨rfl,hB⟩)
  refine⟨rfl,?_⟩
  have e:=HO.out
  subst e
  exact⟨rfl,((below_drewN (Below.refl _ w) _).mono hpw).trans hB⟩
 | some q=>
  replace cF:∀ wx,Below w.heap.size w wx->Calls Tryz.prog f #[.string A,.pointer (some ⟨pb,0,none⟩)] wx fun e w'=>e=.returned (.tuple #[])/\QkAt w' pb q/\Below pb wx w':=fun wx hb=>(cF wx hb).mono fun e w' h=>⟨h.2.1,h.2.2,h.1⟩
  go_enter Tryz.func110,Tryz.ntmps110
  go_wp2
  go_quiet (fail)
  go_wp2
  go_quiet ((go_at_call 159;go_must (exact quiet_add (cP _))))
  go_wp2_with fail
  refine(cF _ (below_drewN (Below.refl _ w) _)).mono ?_
  rintro e w1 ⟨rfl,hQ,hB⟩
  replace hB:Below pb w w1:=((below_drewN (Below.refl _ w) _).mono hpw).trans hB
  have hR1:=HR.out.below hB hlp
  have r1:=hR1.c1
  have rf:=hR1.fz 1
  have HR1:=hid hR1
  clear hR1 q0 q1 q2
  go_wp2
  go_ret
  have e:=HO.out
  subst e
  exact⟨rfl,HR1.out.next hk,hQ.set hrb,(hB.mono (Nat.le_of_lt hrb)).setCell ler _,(KeepB.below hB).set⟩
theorem take_any(T:ByteArray)(f:FuncId)(st:List UInt8->Option M.Pk)(w:World)(rb lb pb:Nat)(ps:List ByteArray)(k:Nat)(p:M.Pk)(hR:RAt w rb lb ps k)(hQ:QkAt w pb p)(hl:ps.length<=100000)(hlp:lb<pb)
 (hsz:∀ q∈ps,q.size<=100000) (he:∀ args w,(callFunc f args).run Tryz.prog w=.ok (.enter f args) w)
 (cF:∀ (A:ByteArray) wx,A.size<=100000->Below w.heap.size w wx->Calls Tryz.prog f #[.string A,.pointer (some ⟨pb,0,none⟩)] wx (ClPost (st A.data.toList) pb wx)):
 Calls Tryz.prog 110 #[.pointer (some ⟨rb,0,none⟩),.string T,.func (.func f) #[] #[.pointer (some ⟨pb,0,none⟩)]] w (TakePost (takeS T.data.toList st (ps.map fun q=>q.data.toList) k p) rb lb pb ps w):=by
 have hpw:=hQ.lt
 have hrb:rb<pb:=Nat.lt_trans hR.lt hlp
 have stay:∀ w',Below w.heap.size w w'->RAt w' rb lb ps k/\QkAt w' pb p/\Below rb w w'/\KeepB w w' rb pb:=fun w' hb=>⟨hR.below (hb.mono (Nat.le_of_lt hpw)) hlp,hQ.below hb,hb.mono (by omega),KeepB.below (hb.mono (Nat.le_of_lt hpw))⟩
 by_cases hk:k<ps.length
 ·have e1:(ps.map fun q=>q.data.toList)[k]? = some ps[k].data.toList:=by simp[hk]
  unfold takeS
  rw[e1]
  cases hp:Lib.hasPrefix ps[k].data.toList T.data.toList with
  | false=>
   simp only[hp,Bool.false_eq_true,if_false]
   exact(take_miss T _ w rb lb ps k hR hk hl hp).mono fun e w' h=>⟨h.1,stay w' h.2⟩
  | true=>
   obtain⟨A,hA⟩:=bytes_ex (Lib.trimPrefix ps[k].data.toList T.data.toList)
   have hA2:A.data.toList=ps[k].data.toList.drop T.data.toList.length:=by rw[hA];unfold Lib.trimPrefix;rw[if_pos hp]
   have hAs:A.size<=100000:=by
    have h1:=hsz _ (List.getElem_mem hk)
    have h2:=len_data ps[k]
    have h3:=trimP_len ps[k].data.toList T.data.toList
    rw[size_of hA]
    omega
   simp only[hp,if_true]
   have:=take_hit T A f (st A.data.toList) w rb lb pb ps k hR hk hl hlp (Nat.le_of_lt hpw) (fun wx=>prefix_lib ps[k] T A _ wx hA.symm hp) he (fun wx hb=>cF A wx hAs hb)
   rw[hA2] at this
   cases ho:st (ps[k].data.toList.drop T.data.toList.length) with
   | none=>rw[ho] at this;exact this
   | some q=>rw[ho] at this;exact this
 ·have e1:(ps.map fun q=>q.data.toList)[k]? = none:=by simp;omega
  have hkk:k=ps.length:=by have:=hR.kl;omega
  unfold takeS
  rw[e1]
  exact(take_end T _ w rb lb ps k hR hkk).mono fun e w' h=>⟨h.1,stay w' h.2⟩
end Go.Proofs.YtgnfknjopafngabGreatDoor
namespace Go.Proofs.YtgnfknjopafngabGreatDoor
open Go
def fileLt(x y:M.Fl):Bool:=decide (Lib.compareBytes x.path y.path<0)
theorem less_is:∀ (a b:List UInt8),Op.bytesLess a b=decide (Lib.compareBytes a b<0)
 | [],[]=>by decide
 | [],_ :: _=>by simp[Op.bytesLess,Lib.compareBytes]
 | _ :: _,[]=>by simp[Op.bytesLess,Lib.compareBytes]
 | x :: a,y :: b=>by
  have ih:=less_is a b
  unfold Op.bytesLess Lib.compareBytes
  by_cases h1:x<y
  ·simp[h1]
  ·by_cases h2:y<x
   ·have:¬ x=y:=fun e=>h1 (e ▸ h2)
    simp[h1,h2,this]
   ·have:x=y:=UInt8.le_antisymm (UInt8.not_lt.1 h2) (UInt8.not_lt.1 h1)
    simp[this,ih]
theorem swp_is [Inhabited M.Fl](l:List M.Fl)(k:Nat)(h:k+1<l.length):Sort.swp l.toArray (k+1) k=(M.swapAt l k).toArray:=by
 unfold Sort.swp M.swapAt
 rw[List.getElem?_eq_getElem (by omega),List.getElem?_eq_getElem h]
 rw[getElem!_pos l.toArray k (by simp;omega),getElem!_pos l.toArray (k+1) (by simpa using h)]
 simp
theorem ins_is [Inhabited M.Fl]:∀ (k:Nat) (l:List M.Fl),k<l.length->Sort.insInner fileLt 0 k l.toArray=(M.bub k l).toArray
 | 0,l,_=>rfl
 | k+1,l,h=>by
  unfold Sort.insInner M.bub
  rw[List.getElem?_eq_getElem (by omega),List.getElem?_eq_getElem h]
  rw[getElem!_pos l.toArray k (by simp;omega),getElem!_pos l.toArray (k+1) (by simpa using h)]
  simp only[List.getElem_toArray,fileLt,less_is,decide_eq_true_eq,Nat.zero_lt_succ,gt_iff_lt,decide_true,Bool.true_and]
  by_cases hc:Lib.compareBytes l[k+1].path l[k].path<0
  ·rw[if_pos hc,if_pos hc,swp_is l k h]
   exact ins_is k (M.swapAt l k) (by rw[M.swapAt_len];omega)
  ·rw[if_neg hc,if_neg hc]
theorem outer_is [Inhabited M.Fl]:∀ (m i:Nat) (l:List M.Fl),l.length<=m+i->Sort.insOuter fileLt 0 l.length i l.toArray=(M.srt m i l).toArray
 | 0,i,l,h=>by
  rw[Sort.insOuter,if_neg (by omega)];rfl
 | m+1,i,l,h=>by
  rw[Sort.insOuter,M.srt]
  by_cases hi:i<l.length
  ·rw[if_pos hi,if_pos hi,ins_is i l hi]
   have:=outer_is m (i+1) (M.bub i l) (by rw[M.bub_len];omega)
   rw[M.bub_len] at this
   exact this
  ·rw[if_neg hi,if_neg hi]
end Go.Proofs.YtgnfknjopafngabGreatDoor
namespace Go.Proofs.YtgnfknjopafngabGreatDoor
open Go.RowKit Go.Sort Go.Shelf
theorem cmpFile_any(x y:M.Fl)(W:World):
 Calls Tryz.prog 123 #[.agg #[strV x.path,strV x.content],.agg #[strV y.path,strV y.content]] W fun e w'=>e=.returned (.int .i64 (Lib.compareBytes x.path y.path))/\∃ q os',w'=grow (W.drewN q) os':=by
 obtain⟨P,C⟩:=x
 obtain⟨P2,C2⟩:=y
 have hcon:=fun W'=>Tryz.strings_Compare ⟨P.toArray⟩ ⟨P2.toArray⟩ W'
 have e0:Lib.compareBytes (ByteArray.mk P.toArray).data.toList (ByteArray.mk P2.toArray).data.toList=Lib.compareBytes P P2:=rfl
 rw[e0] at hcon
 unfold strV
 generalize Lib.compareBytes P P2=r at hcon ⊢
 go_enter Tryz.func123,Tryz.ntmps123
 go_wp2_with (go_at_call 106;refine(hcon _).mono ?_;rintro e w' ⟨rfl,rfl⟩)
 go_ret
 exact⟨rfl,0,_,by rw[alloc_eq_grow,alloc_eq_grow,grow_grow];rfl⟩
theorem insSort_nil(fv:Value)(w:World):
 Calls Tryz.prog 221 #[.slice none 0 0,.int .i64 0,.int .i64 0,fv] w fun e w'=>e=.returned (.tuple #[])/\w'=w:=by
 go_enter Tryz.func221,Tryz.ntmps221
 go_wp2
 refine wp_loop_rounds 1 ?_
 rw[rounds_succ]
 go_wp2
 go_end0
 exact⟨rfl,rfl⟩
theorem pdq_nil(lim:Int)(fv:Value)(w:World):
 Calls Tryz.prog 169 #[.slice none 0 0,.int .i64 0,.int .i64 0,.int .i64 lim,fv] w fun e w'=>e=.returned (.tuple #[])/\w'=w:=by
 have hi:=insSort_nil fv
 go_enter Tryz.func169,Tryz.ntmps169
 go_wp2
 refine wp_loop_rounds 1 ?_
 rw[rounds_succ]
 go_wp2_with (go_at_call 221;refine(hi _).mono ?_;rintro e w' ⟨rfl,rfl⟩)
 (try simp only[Exit.inBlock,Exit.then]);refine bodyPost_ret (results_none rfl _ _ _) rfl ?_
 exact⟨rfl,rfl⟩
theorem sort_nil(fv:Value)(w:World):
 Calls Tryz.prog 122 #[.slice none 0 0,fv] w fun e w'=>e=.returned (.tuple #[])/\w'=w:=by
 have hp:=fun lim=>pdq_nil lim fv
 have hl:∀ W,Calls Tryz.prog 170 #[.int .u64 0] W fun e w'=>e=.returned (.int .i64 (Lib.bitLen 0:Nat))/\w'=W:=fun W=>Tryz.bits_Len 0 W (by omega) (by omega)
 go_enter Tryz.func122,Tryz.ntmps122
 go_wp2_with (first|(go_at_call 170;refine(hl _).mono ?_;rintro e w' ⟨rfl,rfl⟩)|(go_at_call 169;refine(hp _ _).mono ?_;rintro e w' ⟨rfl,rfl⟩))
 go_end0
 exact⟨rfl,rfl⟩
theorem grownBy_sortedK [Inhabited M.Fl]{w:World}{g n:Nat}{os:Array Obj}(d:Array M.Fl):w.grownBy (sortWorldK flCells 2 w g 0 n d os) (some g):=by
 unfold sortWorldK putRowK
 refine⟨rfl,rfl,rfl,by simp,fun k hk hne=>?_⟩
 rw[heap_grow_old _ _ (by simpa using hk)]
 have:g≠k:=fun e=>hne (by rw[e])
 simp[putRow,mapBlock,Sort.ahead,Array.getElem?_modify,this]
theorem strBlk_sorted [Inhabited M.Fl]{w:World}{g n:Nat}{os:Array Obj}(d:Array M.Fl){cur:Array Value}{e:TypeId}{fz:Nat × Nat}(hg:w.heap[g]? = some (.cells cur e fz))(h:StrBlk (sortWorldK flCells 2 w g 0 n d os) g):e=9:=by
 obtain⟨c,f,he⟩:=h
 unfold sortWorldK putRowK at he
 have hlt:=(Array.getElem?_eq_some_iff.1 hg).1
 rw[heap_grow_old _ _ (by simpa [putRow,mapBlock,Sort.ahead] using hlt)] at he
 simp[putRow,mapBlock,Sort.ahead,Array.getElem?_modify,hg,onCells] at he
 exact he.2.1
theorem flat_get [Inhabited M.Fl](l:List M.Fl)(t:Nat)(h:t<l.length*2):(flsCells l)[t]? = some ((flatK flCells 2 l.toArray)[t]!):=by
 rw[get_flatK _ _ _ _ (by simpa using h)]
 have hd:t / 2<l.length:=by omega
 rw[getElem!_pos l.toArray (t / 2) (by simpa using hd)]
 rcases Nat.mod_two_eq_zero_or_one t with h0|h0
 ·have:=fl_cell hd
  rw[show 2*(t / 2)=t by omega] at this
  rw[this,h0];rfl
 ·have:=fl_cell2' hd
  rw[show 2*(t / 2)+1=t by omega] at this
  rw[this,h0];rfl
theorem srtLen:∀ (m i:Nat) (l:List M.Fl),(M.srt m i l).length=l.length
 | 0,_,l=>rfl
 | m+1,i,l=>by
  unfold M.srt
  split
  ·rw[srtLen m,M.bub_len]
  ·rfl
theorem sortLen(l:List M.Fl):(M.sortF l).length=l.length:=srtLen _ _ _
def SortPost(l:List M.Fl)(v:Value)(w:World)(e:Ending)(w':World):Prop:=
 e=.returned (.tuple #[])/\w.grownBy w' v.ownBlock/\RowIn w' 0 w'.heap.size v l.length (flsCells (M.sortF l))
theorem sort_lib(l:List M.Fl)(v:Value)(B:Nat)(w:World)(h:w.ownsRow B 144 2 v l.length (flsCells l))(hl:l.length<=12):
 Calls Tryz.prog 122 #[v,.func (.func 123) #[] #[]] w (SortPost l v w):=by
 haveI:Inhabited M.Fl:=⟨⟨[],[]⟩⟩
 rcases RowIn.own h with ⟨rfl,h0,_⟩|⟨g,cap,rfl,h1,h2,h3,h4⟩
 ·obtain rfl:=List.length_eq_zero_iff.mp h0
  refine(sort_nil _ w).mono fun e w' hh=>?_
  obtain⟨he,rfl⟩:=hh
  exact⟨he,⟨rfl,rfl,rfl,Nat.le_refl _,fun _ _ _=>rfl⟩,.inl ⟨rfl,rfl,rfl⟩⟩
 ·have hH:HoldsK flCells 2 w g 0 l.toArray:=fun j hj=>by
   rw[size_flatK,List.size_toArray] at hj
   rw[Nat.zero_add]
   exact⟨h4 j _ (flat_get l j hj),h.frozenAt j⟩
  have hc:=AnyQ.slices_SortFunc_small Tryz.laySort 2 Tryz.isAgg144 Tryz.sizeOf144 flCells (fun _=>rfl) (fun x u hu=>by simp[flCells,strV] at hu;rcases hu with rfl|rfl <;> rfl)
   (fun x y=>Lib.compareBytes x.path y.path) 123 #[] g 0 cap l.toArray w (enters_of Tryz.func123 (by kernel_rfl) rfl) (fun _ _ _ _ x y=>cmpFile_any x y _) hH h3.1 (by simpa using hl)
   (fun n W hn=>(Tryz.bits_Len n W (by omega) (by omega)).mono fun _ _ ⟨he,hw⟩=>⟨⟨_,he⟩,hw⟩)
  rw[List.size_toArray] at hc
  refine hc.mono fun e w' hh=>?_
  obtain⟨he,n,os,hw⟩:=hh
  have es:Sort.insertionSort (ltOf fun x y:M.Fl=>Lib.compareBytes x.path y.path) l.toArray 0 l.length=(M.sortF l).toArray:=by
   unfold Sort.insertionSort M.sortF
   exact outer_is l.length 1 l (by omega)
  rw[es] at hw
  have hlen:(M.sortF l).length=l.length:=sortLen l
  subst hw
  refine⟨he,grownBy_sortedK _,.inr ⟨g,cap,rfl,h1,Nat.zero_le _,?_,fun j u hj=>?_⟩⟩
  ·refine⟨Nat.lt_of_lt_of_le h3.1 (size_sortWorldK_c _ _ _ _ _ _ _ _),fun e=>?_⟩
   obtain⟨_,⟨e',_⟩|⟨g',cap',cur,e',_,hgb,_⟩⟩:=h
   ·cases e'
   ·cases e'
    exact absurd (strBlk_sorted _ hgb e) (by decide)
  ·have hh:=holdsK_sortWorldK_c flCells 2 w g 0 l.toArray (M.sortF l).toArray n os hH h3.1 (by simpa using hlen)
   have hj2:j<(M.sortF l).length*2:=by
    have:=(List.getElem?_eq_some_iff.1 hj).1
    rw[flsCells_len] at this
    exact this
   have:=(hh j (by rw[size_flatK,List.size_toArray];exact hj2)).1
   rw[Nat.zero_add] at this
   rw[this]
   have e2:=flat_get (M.sortF l) j hj2
   rw[hj] at e2
   exact e2.symm
end Go.Proofs.YtgnfknjopafngabGreatDoor
