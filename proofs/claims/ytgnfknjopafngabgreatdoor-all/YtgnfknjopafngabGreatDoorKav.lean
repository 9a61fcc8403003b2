import Derived.Test.YtgnfknjopafngabGreatDoorKau
import Derived.Sort.Lot0
set_option maxRecDepth 100000
set_option maxHeartbeats 2000000
namespace Go.Proofs.YtgnfknjopafngabGreatDoor
open Go.RowKit
def Zkw(o:Option M.Pk)(pb:Nat)(w:World)(e:Ending)(w':World):Prop:=
 Below pb w w'/\match o with
  | none=>Zce e
  | some p=>e=.returned (.tuple #[])/\Znn w' pb p
theorem Znx{o:Option M.Pk}{pb:Nat}{w:World}{e:Ending}{w':World}(ho:o=none)(h:Zce e)(hb:Below pb w w'):Zkw o pb w e w':=by subst ho;exact⟨hb,h⟩
theorem Zr8{o:Option M.Pk}{pb:Nat}{w w':World}(p:M.Pk)(ho:o=some p)(h:Znn w' pb p)(hb:Below pb w w'):Zkw o pb w (.returned (.tuple #[])) w':=by subst ho;exact⟨hb,rfl,h⟩
theorem Zyc(s:ByteArray)(w:World)(pb:Nat)(p:M.Pk)(hP:Znn w pb p)(hw:Zby w)(hs:s.size<=100000):
 Calls Tryz.prog 111 #[.string s,.pointer (some ⟨pb,0,none⟩)] w (Zkw ((Zg8 s.data.toList).map fun x=>{ p with name:=x.1,ver:=x.2 }) pb w):=by
 obtain⟨B,nv,bv,fv,hP⟩:=hP
 have c1:=Zt1 s w hw (by omega)
 have hpb:pb<w.heap.size:=Nat.lt_of_lt_of_le hP.lt hP.le
 obtain⟨O,HO0⟩:∃ O,O=(Zg8 s.data.toList).map fun x=>({ p with name:=x.1,ver:=x.2 }:M.Pk):=⟨_,rfl⟩
 rw[<-HO0]
 have HO:=hid HO0
 clear HO0
 cases ht:Zg8 s.data.toList with
 | none=>
  rw[ht] at c1
  have HE:Hid (O=none):=by show _ = _;rw[HO.out,ht];rfl
  replace c1:Calls Tryz.prog 112 #[.string s] w fun e w'=>Zce e/\Below w.heap.size w w':=c1.mono fun e w' ⟨h1,n,h2⟩=>⟨h1,by rw[h2];exact Zae w n⟩
  clear ht HO
  go_enter Tryz.func111,Tryz.ntmps111
  go_wp2_with fail
  refine c1.mono ?_
  rintro e w' ⟨rfl,hB⟩
  go_wp2
  exact⟨rfl,Znx HE.out rfl (hB.mono (Nat.le_of_lt hpb))⟩
 | some x=>
  rw[ht] at c1
  have HE:Hid (O=some { p with name:=x.1,ver:=x.2 }):=by show _ = _;rw[HO.out,ht];rfl
  replace c1:Calls Tryz.prog 112 #[.string s] w fun e w'=>e=.returned (.tuple #[.string ⟨x.1.toArray⟩,.string ⟨x.2.toArray⟩])/\Below w.heap.size w w':=c1.mono fun e w' ⟨h1,n,h2⟩=>⟨h1,by rw[h2];exact Zae w n⟩
  clear ht HO
  go_enter Tryz.func111,Tryz.ntmps111
  go_wp2_with fail
  refine c1.mono ?_
  rintro e w' ⟨rfl,hB⟩
  have hQ:=hP.below hB
  have q0:=hQ.c0
  have q1:=hQ.c1
  have qf:=hQ.fz
  have HQ:=hid hQ
  clear hQ hP
  go_wp2
  go_end0
  exact Zr8 _ HE.out ⟨B,nv,bv,fv,HQ.out.title _ _⟩ (((hB.mono (Nat.le_of_lt hpb)).setCell ler _).setCell ler _)
theorem Zwy(s:ByteArray)(w:World)(pb:Nat)(p:M.Pk)(hP:Znn w pb p)(hf:p.files=[])(hw:Zby w)(hs:s.size<=100000):
 Calls Tryz.prog 113 #[.string s,.pointer (some ⟨pb,0,none⟩)] w (Zkw ((Zb8 Zfr 3 s.data.toList [44,32]).map fun x=>{ p with needs:=x }) pb w):=by
 obtain⟨B,nv,bv,fv,hP⟩:=hP
 have c1:=Zsz s ⟨#[44,32]⟩ 3 w hw hs (by decide)
 have hpb:pb<w.heap.size:=Nat.lt_of_lt_of_le hP.lt hP.le
 obtain⟨O,HO0⟩:∃ O,O=(Zb8 Zfr 3 s.data.toList [44,32]).map fun x=>({ p with needs:=x }:M.Pk):=⟨_,rfl⟩
 rw[<-HO0]
 have HO:=hid HO0
 clear HO0
 have el:(ByteArray.mk #[44,32]).data.toList=[44,32]:=rfl
 rw[el] at c1
 cases ht:Zb8 Zfr 3 s.data.toList [44,32] with
 | none=>
  rw[ht] at c1
  have HE:Hid (O=none):=by show _ = _;rw[HO.out,ht];rfl
  replace c1:Calls Tryz.prog 114 #[.string s,.string ⟨#[44,32]⟩,.int .i64 3,.func (.func 115) #[] #[]] w fun e w'=>Zce e/\Below w.heap.size w w':=c1.mono fun e w' h=>⟨h.2,h.1⟩
  clear ht HO
  go_enter Tryz.func113,Tryz.ntmps113
  go_wp2_with fail
  refine c1.mono ?_
  rintro e w' ⟨rfl,hB⟩
  go_wp2
  exact⟨rfl,Znx HE.out rfl (hB.mono (Nat.le_of_lt hpb))⟩
 | some x=>
  rw[ht] at c1
  have HE:Hid (O=some { p with needs:=x }):=by show _ = _;rw[HO.out,ht];rfl
  have HN:Hid (x≠[]):=by intro e;have:=(Zoq ht).1;rw[e] at this;simp at this
  replace c1:Calls Tryz.prog 114 #[.string s,.string ⟨#[44,32]⟩,.int .i64 3,.func (.func 115) #[] #[]] w fun e w'=>∃ a cap,e=.returned (.slice a x.length cap)/\Zeg w' w.heap.size (.slice a x.length cap) x/\Below w.heap.size w w':=c1.mono fun e w' h=>by
   obtain⟨h1,u,h2,h3⟩:=h
   obtain⟨a,cap,rfl⟩:=h3.form
   exact⟨a,cap,h2,h3,h1⟩
  clear ht HO
  go_enter Tryz.func113,Tryz.ntmps113
  go_wp2_with fail
  refine c1.mono ?_
  rintro e w' ⟨a,cap,rfl,hG,hB⟩
  have hQ:=hP.below hB
  have q2:=hQ.c2
  have qf:=hQ.fz
  have HQ:=hid hP
  clear hQ hP
  go_wp2
  go_end0
  exact Zr8 _ HE.out ⟨_,_,_,_,HQ.out.needs' hB hf HN.out hG⟩ ((hB.mono (Nat.le_of_lt hpb)).setCell ler _)
theorem Z1a(s:ByteArray)(w:World)(pb:Nat)(p:M.Pk)(hP:Znn w pb p)(hf:p.files=[])(hw:Zby w)(hs:s.size<=100000):
 Calls Tryz.prog 116 #[.string s,.pointer (some ⟨pb,0,none⟩)] w (Zkw ((Zb8 Zbo 3 s.data.toList [44,32]).map fun x=>{ p with bars:=x }) pb w):=by
 obtain⟨B,nv,bv,fv,hP⟩:=hP
 have c1:=Zjw s ⟨#[44,32]⟩ 3 w hw hs (by decide)
 have hpb:pb<w.heap.size:=Nat.lt_of_lt_of_le hP.lt hP.le
 obtain⟨O,HO0⟩:∃ O,O=(Zb8 Zbo 3 s.data.toList [44,32]).map fun x=>({ p with bars:=x }:M.Pk):=⟨_,rfl⟩
 rw[<-HO0]
 have HO:=hid HO0
 clear HO0
 have el:(ByteArray.mk #[44,32]).data.toList=[44,32]:=rfl
 rw[el] at c1
 cases ht:Zb8 Zbo 3 s.data.toList [44,32] with
 | none=>
  rw[ht] at c1
  have HE:Hid (O=none):=by show _ = _;rw[HO.out,ht];rfl
  replace c1:Calls Tryz.prog 117 #[.string s,.string ⟨#[44,32]⟩,.int .i64 3,.func (.func 118) #[] #[]] w fun e w'=>Zce e/\Below w.heap.size w w':=c1.mono fun e w' h=>⟨h.2,h.1⟩
  clear ht HO
  go_enter Tryz.func116,Tryz.ntmps116
  go_wp2_with fail
  refine c1.mono ?_
  rintro e w' ⟨rfl,hB⟩
  go_wp2
  exact⟨rfl,Znx HE.out rfl (hB.mono (Nat.le_of_lt hpb))⟩
 | some x=>
  rw[ht] at c1
  have HE:Hid (O=some { p with bars:=x }):=by show _ = _;rw[HO.out,ht];rfl
  replace c1:Calls Tryz.prog 117 #[.string s,.string ⟨#[44,32]⟩,.int .i64 3,.func (.func 118) #[] #[]] w fun e w'=>∃ a cap,e=.returned (.slice a x.length cap)/\w'.ownsRow w.heap.size 140 3 (.slice a x.length cap) x.length (Zak x)/\Below w.heap.size w w':=c1.mono fun e w' h=>by
   obtain⟨h1,u,h2,h3⟩:=h
   obtain⟨a,cap,rfl⟩:=Zac h3
   exact⟨a,cap,h2,h3,h1⟩
  clear ht HO
  go_enter Tryz.func116,Tryz.ntmps116
  go_wp2_with fail
  refine c1.mono ?_
  rintro e w' ⟨a,cap,rfl,hG,hB⟩
  have hQ:=hP.below hB
  have q3:=hQ.c3
  have qf:=hQ.fz
  have HQ:=hid hP
  clear hQ hP
  go_wp2
  go_end0
  exact Zr8 _ HE.out ⟨_,_,_,_,HQ.out.bars' hB hf hG⟩ ((hB.mono (Nat.le_of_lt hpb)).setCell ler _)
theorem Spare.use{G:Prop}(w:World)(h:G)(_ : wpAny Tryz.prog .any #[] (fun _ _ _=>True) 0 #[] { tmps:=#[],defers:=[] } w):G:=h
theorem Z8d{l r:List M.Fl}{t:List UInt8}(h:Zp8 l t=some r):∃ f,r=l++[f]:=by
 unfold Zp8 at h
 split at h
 ·cases h
 ·split at h
  ·cases h;exact⟨_,rfl⟩
  ·cases h
theorem Yao{w wx w2:World}{pb B:Nat}{p:M.Pk}{nv bv fv v':Value}{l:List M.Fl}{t:List UInt8}(h:QAt w pb B p nv bv fv)(hb:Below w.heap.size w wx)(hg:wx.grownBy w2 fv.ownBlock)(ha:Zp8 p.files t=some l)
 (ho:w2.ownsRow B 144 2 v' l.length (Zaf l)):QAt (w2.setCell ⟨pb,4,none⟩ v') pb B { p with files:=l } nv bv v':=by
 obtain⟨f,rfl⟩:=Z8d ha
 rw[Zf4,List.length_append] at ho
 exact h.files' (X:=⟨f.path.toArray⟩) (Y:=⟨f.content.toArray⟩) hb hg ho
theorem Yb8{w wx w2:World}{pb B:Nat}{p:M.Pk}{nv bv fv:Value}(h:QAt w pb B p nv bv fv)(hb:Below w.heap.size w wx)(hg:wx.grownBy w2 fv.ownBlock):Below pb w w2:=by
 have h1:=h.lt
 have h2:=h.le
 exact(hb.mono (by omega)).grown hg (by have:=hb.size;omega) (fun j hj=>by have:=(h.files.lt j hj).1;omega)
theorem Zvz{t:List UInt8}{f:M.Fl}(h:Zpo t=some f):f.path.length<=t.length:=by
 unfold Zpo at h
 split at h
 ·cases h;exact(Zit t 61).1
 ·cases h
theorem Z2k(s:ByteArray)(w:World)(pb:Nat)(p:M.Pk)(hP:Znn w pb p)(hl:p.files.length<=1000000)(hsh:∀ f∈p.files,f.path.length<=100000)(hw:Zby w)(hs:s.size<=100000):
 Calls Tryz.prog 119 #[.string s,.pointer (some ⟨pb,0,none⟩)] w (Zkw ((Zp8 p.files s.data.toList).map fun x=>{ p with files:=x }) pb w):=by
 obtain⟨B,nv,bv,fv,hP⟩:=hP
 have c1:=Zu3 s w.drew (hw.drewN 1) hs
 have hpb:pb<w.heap.size:=Nat.lt_of_lt_of_le hP.lt hP.le
 obtain⟨O,HO0⟩:∃ O,O=(Zp8 p.files s.data.toList).map fun x=>({ p with files:=x }:M.Pk):=⟨_,rfl⟩
 rw[<-HO0]
 have HO:=hid HO0
 clear HO0
 have q4:=hP.c4
 have HP:=hid hP
 obtain⟨af,cf,ef⟩:=Zac hP.files
 subst ef
 have hBd:Below w.heap.size w w.drew:=Zae w 1
 clear hP
 cases ht:Zpo s.data.toList with
 | none=>
  have HE:Hid (O=none):=by show _ = _;rw[HO.out];unfold Zp8;rw[ht];rfl
  replace c1:Calls Tryz.prog 121 #[.string s] w.drew fun e w'=>Zce e/\Below w.heap.size w w':=c1.mono fun e w' h=>⟨by rw[ht] at h;exact h.1,bt hBd h.2⟩
  clear ht HO
  go_enter Tryz.func119,Tryz.ntmps119
  go_region_with (go_at_call 121;refine c1.mono ?_;rintro e w' ⟨rfl,hB⟩;refine Spare.use w' ⟨rfl,Znx HE.out rfl (hB.mono (Nat.le_of_lt hpb))⟩ ?_)
  all_goals trivial
 | some f=>
  obtain⟨P,C⟩:=f
  have hPl:(ByteArray.mk P.toArray).size<=100000:=by
   have:=Zvz ht
   have h2:=Zaq s
   have h3:(ByteArray.mk P.toArray).size=P.length:=by rw[<-Zaq]
   have h4:P.length<=s.data.toList.length:=this
   omega
  have HA:Hid (Zp8 p.files s.data.toList=if p.files.length<4/\(p.files.any fun g=>Zfq P g.path)=false then some (p.files++[⟨P,C⟩]) else none):=by
   show _ = _
   unfold Zp8
   rw[ht]
  replace c1:Calls Tryz.prog 121 #[.string s] w.drew fun e w'=>e=.returned (.agg #[.string ⟨P.toArray⟩,.string ⟨C.toArray⟩])/\Below w.heap.size w w':=c1.mono fun e w' h=>⟨by rw[ht] at h;exact h.1,bt hBd h.2⟩
  have c2:=fun w' (hb:Below w.heap.size w w')=>Zxi p.files ⟨P.toArray⟩ ⟨C.toArray⟩ B (.slice af p.files.length cf) w' hPl hl (by have:=HP.out.le;have:=hb.size;omega) (own_below HP.out.files hb) hsh
  have c3:∀ w',Below w.heap.size w w'->Calls Tryz.prog 120 #[.slice af p.files.length cf,.agg #[.string ⟨P.toArray⟩,.string ⟨C.toArray⟩]] w' (Zsv (Zp8 p.files s.data.toList) B (.slice af p.files.length cf) w'):=fun w' hb=>by rw[HA.out];exact c2 w' hb
  clear c2 ht HA
  cases hadd:Zp8 p.files s.data.toList with
  | none=>
   have HE:Hid (O=none):=by show _ = _;rw[HO.out,hadd];rfl
   replace c3:∀ w',Below w.heap.size w w'->Calls Tryz.prog 120 #[.slice af p.files.length cf,.agg #[.string ⟨P.toArray⟩,.string ⟨C.toArray⟩]] w' fun e w2=>Zce e/\Below w.heap.size w w2:=fun w' hb=>(c3 w' hb).mono fun e w2 h=>by
    rw[hadd] at h
    exact⟨h.1,bt hb h.2⟩
   clear hadd HO
   go_enter Tryz.func119,Tryz.ntmps119
   go_region_with (first|(go_at_call 121;refine c1.mono ?_;rintro e w' ⟨rfl,hB⟩;have r4:=(hB.cell (p:=⟨pb,4,none⟩) hpb).trans q4)|(go_at_call 120;refine(c3 _ hB).mono ?_;rintro e w2 ⟨rfl,hB2⟩;refine Spare.use w2 ⟨rfl,Znx HE.out rfl (hB2.mono (Nat.le_of_lt hpb))⟩ ?_))
   all_goals trivial
  | some l=>
   have HE:Hid (O=some { p with files:=l }):=by show _ = _;rw[HO.out,hadd];rfl
   have HA:=hid hadd
   replace c3:∀ w',Below w.heap.size w w'->Calls Tryz.prog 120 #[.slice af p.files.length cf,.agg #[.string ⟨P.toArray⟩,.string ⟨C.toArray⟩]] w' fun e w2=>∃ av cv wx,e=.returned (.slice av l.length cv)/\w2.ownsRow B 144 2 (.slice av l.length cv) l.length (Zaf l)/\Below w.heap.size w wx/\wx.grownBy w2 (Value.slice af p.files.length cf).ownBlock:=fun w' hb=>(c3 w' hb).mono fun e w2 h=>by
    rw[hadd] at h
    obtain⟨v',wx,h1,h2,h3,h4⟩:=h
    obtain⟨av,cv,rfl⟩:=Zac h2
    exact⟨av,cv,wx,h1,h2,bt hb h3,h4⟩
   clear hadd HO
   go_enter Tryz.func119,Tryz.ntmps119
   go_region_with (first|(go_at_call 121;refine c1.mono ?_;rintro e w' ⟨rfl,hB⟩;have r4:=(hB.cell (p:=⟨pb,4,none⟩) hpb).trans q4)|(go_at_call 120;refine(c3 _ hB).mono ?_;rintro e w2 ⟨av,cv,wx,rfl,ho,hBx,hgr⟩;have r5:=((HP.out.grown hBx hgr).1 pb 4 HP.out.lt).1.1.trans q4;have r6:=((HP.out.grown hBx hgr).1 pb 4 HP.out.lt).2.trans (HP.out.fz 4)))
   all_goals
    go_end0
    refine Zr8 _ HE.out ⟨B,nv,bv,_,Yao HP.out hBx hgr HA.out ho⟩ ?_
    exact(Yb8 HP.out hBx hgr).setCell ler _
structure RAt (w:World) (rb lb:Nat) (ps:List ByteArray) (k:Nat):Prop where
 c0:w.cell? ⟨rb,0,none⟩=some (.slice (some ⟨lb,0,none⟩) ps.length ps.length)
 c1:w.cell? ⟨rb,1,none⟩=some (.int .i64 ((k:Int)+1))
 fz:∀ o,w.frozen? ⟨rb,o,none⟩=false
 cl:∀ j (h:j<ps.length),w.cell? ⟨lb,j,none⟩=some (.string ps[j])
 lt:rb<lb
 le:lb<w.heap.size
 kl:k<=ps.length
theorem RAt.below{w w':World}{rb lb k pb:Nat}{ps:List ByteArray}(h:RAt w rb lb ps k)(hb:Below pb w w')(hp:lb<pb):RAt w' rb lb ps k:=by
 have hrb:rb<pb:=Nat.lt_trans h.lt hp
 refine⟨(hb.cell (p:=⟨rb,0,none⟩) hrb).trans h.c0,(hb.cell (p:=⟨rb,1,none⟩) hrb).trans h.c1,fun o=>(hb.frozen (p:=⟨rb,o,none⟩) hrb).trans (h.fz o),fun j hj=>(hb.cell (p:=⟨lb,j,none⟩) hp).trans (h.cl j hj),h.lt,?_,h.kl⟩
 exact Nat.lt_of_lt_of_le h.le hb.size
theorem RAt.next{w:World}{rb lb k:Nat}{ps:List ByteArray}(h:RAt w rb lb ps k)(hk:k<ps.length):RAt (w.setCell ⟨rb,1,none⟩ (.int .i64 ((k:Int)+1+1))) rb lb ps (k+1):=by
 have hne:lb≠rb:=by have:=h.lt;omega
 refine⟨?_,?_,fun o=>?_,fun j hj=>?_,h.lt,?_,hk⟩
 ·rw[Zbj _ _ _ _ _ (by decide)];exact h.c0
 ·rw[World.cell?_setCell_same _ _ _ h.c1];rfl
 ·rw[World.frozen?_setCell];exact h.fz o
 ·rw[Zbu _ _ _ _ _ _ hne];exact h.cl j hj
 ·rw[Za0];exact h.le
def Zh8(T:List UInt8)(st:List UInt8->Option M.Pk)(ls:List (List UInt8))(k:Nat)(p:M.Pk):Option (Bool × Nat × M.Pk):=match ls[k]? with
 | none=>some (false,k,p)
 | some s=>if Lib.hasPrefix s T=true then (match st (s.drop T.length) with
  | none=>none
  | some q=>some (true,k+1,q))
  else some (false,k,p)
def Zn8(w w':World)(rb pb:Nat):Prop:=∀ g o,g<pb->g≠rb->w'.cell? ⟨g,o,none⟩=w.cell? ⟨g,o,none⟩/\w'.frozen? ⟨g,o,none⟩=w.frozen? ⟨g,o,none⟩
theorem Zn8.below{w w':World}{rb pb:Nat}(h:Below pb w w'):Zn8 w w' rb pb:=fun g o hg _=>⟨h.cell (p:=⟨g,o,none⟩) hg,h.frozen (p:=⟨g,o,none⟩) hg⟩
theorem Zn8.set{w w':World}{rb pb o:Nat}{v:Value}(h:Zn8 w w' rb pb):Zn8 w (w'.setCell ⟨rb,o,none⟩ v) rb pb:=fun g o' hg hne=>⟨(Zbu _ _ _ _ _ _ hne).trans (h g o' hg hne).1,by rw[World.frozen?_setCell];exact(h g o' hg hne).2⟩
def Ztr(o:Option (Bool × Nat × M.Pk))(rb lb pb:Nat)(ps:List ByteArray)(w:World)(e:Ending)(w':World):Prop:=match o with
 | none=>Zce e/\Below pb w w'
 | some (b,k,p)=>e=.returned (.bool b)/\RAt w' rb lb ps k/\Znn w' pb p/\Below rb w w'/\Zn8 w w' rb pb
theorem Znn.below{w w':World}{pb:Nat}{p:M.Pk}(h:Znn w pb p)(hb:Below w.heap.size w w'):Znn w' pb p:=by
 obtain⟨B,nv,bv,fv,h⟩:=h
 exact⟨B,nv,bv,fv,h.below hb⟩
theorem Znn.lt{w:World}{pb:Nat}{p:M.Pk}(h:Znn w pb p):pb<w.heap.size:=by
 obtain⟨B,nv,bv,fv,h⟩:=h
 exact Nat.lt_of_lt_of_le h.lt h.le
theorem Znn.set{w:World}{pb b o:Nat}{p:M.Pk}{v:Value}(h:Znn w pb p)(hb:b<pb):Znn (w.setCell ⟨b,o,none⟩ v) pb p:=by
 obtain⟨B,nv,bv,fv,h⟩:=h
 have hlt:=h.lt
 have kk:∀ g o',pb<=g->Zdr w (w.setCell ⟨b,o,none⟩ v) g o':=fun g o' hg=>Zk5 (by omega)
 refine⟨B,nv,bv,fv,(kk pb 0 ler).1.trans h.c0,(kk pb 1 ler).1.trans h.c1,(kk pb 2 ler).1.trans h.c2,(kk pb 3 ler).1.trans h.c3,(kk pb 4 ler).1.trans h.c4,fun o'=>by rw[World.frozen?_setCell];exact h.fz o',hlt,by rw[Za0];exact h.le,h.needs.keep fun g o' hg _=>kk g o' (by omega),h.bars.keep fun g o' hg _=>kk g o' (by omega),ownsRow_setCell_below h.files (show b<B by omega) _,h.nnil,h.fnil⟩
theorem Z7k(T:ByteArray)(fv:Value)(w:World)(rb lb:Nat)(ps:List ByteArray)(k:Nat)(hR:RAt w rb lb ps k)(hk:k=ps.length):
 Calls Tryz.prog 110 #[.pointer (some ⟨rb,0,none⟩),.string T,fv] w fun e w'=>e=.returned (.bool false)/\Below w.heap.size w w':=by
 have q0:=hR.c0
 have q1:=hR.c1
 have hgt:(ps.length:Int)<(k:Int)+1:=by omega
 clear hR
 go_enter Tryz.func110,Tryz.ntmps110
 go_wp2
 go_quiet (fail)
 go_wp2
 go_ret
 exact⟨rfl,Zae w _⟩
theorem Z4y(T:ByteArray)(fv:Value)(w:World)(rb lb:Nat)(ps:List ByteArray)(k:Nat)(hR:RAt w rb lb ps k)(hk:k<ps.length)(hl:ps.length<=100000)(hp:Lib.hasPrefix ps[k].data.toList T.data.toList=false):
 Calls Tryz.prog 110 #[.pointer (some ⟨rb,0,none⟩),.string T,fv] w fun e w'=>e=.returned (.bool false)/\Below w.heap.size w w':=by
 have q0:=hR.c0
 have q1:=hR.c1
 have q2:=hR.cl k hk
 have hgt:¬ (ps.length:Int)<(k:Int)+1:=by omega
 obtain⟨A,hA⟩:=Zd9 (Lib.trimPrefix ps[k].data.toList T.data.toList)
 have cP:=fun wx=>Zmb ps[k] T A _ wx hA.symm hp
 clear hR hp hA
 go_enter Tryz.func110,Tryz.ntmps110
 go_wp2
 go_quiet (fail)
 go_wp2
 go_quiet ((go_at_call 159;go_must (exact Zdi (cP _))))
 go_wp2
 go_ret
 exact⟨rfl,below_drewN (Below.refl _ w) _⟩
theorem Z74(T A:ByteArray)(f:FuncId)(O:Option M.Pk)(w:World)(rb lb pb:Nat)(ps:List ByteArray)(k:Nat)(hR:RAt w rb lb ps k)(hk:k<ps.length)(hl:ps.length<=100000)(hlp:lb<pb)(hpw:pb<=w.heap.size)
 (cP:∀ wx,Calls Tryz.prog 159 #[.string ps[k],.string T] wx fun e w'=>e=.returned (.tuple #[.string A,.bool true])/\w'=wx)
 (he:∀ args w,(callFunc f args).run Tryz.prog w=.ok (.enter f args) w)
 (cF:∀ wx,Below w.heap.size w wx->Calls Tryz.prog f #[.string A,.pointer (some ⟨pb,0,none⟩)] wx (Zkw O pb wx)):
 Calls Tryz.prog 110 #[.pointer (some ⟨rb,0,none⟩),.string T,.func (.func f) #[] #[.pointer (some ⟨pb,0,none⟩)]] w (Ztr (O.map fun q=>(true,k+1,q)) rb lb pb ps w):=by
 have q0:=hR.c0
 have q1:=hR.c1
 have q2:=hR.cl k hk
 have HR:=hid hR
 have hgt:¬ (ps.length:Int)<(k:Int)+1:=by omega
 have hrb:rb<pb:=Nat.lt_trans hR.lt hlp
 clear hR
 obtain⟨O2,HO0⟩:∃ O2,O2=O.map fun q=>(true,k+1,q):=⟨_,rfl⟩
 rw[<-HO0]
 have HO:=hid HO0
 clear HO0
 cases O with
 | none=>
  replace cF:∀ wx,Below w.heap.size w wx->Calls Tryz.prog f #[.string A,.pointer (some ⟨pb,0,none⟩)] wx fun e w'=>Zce e/\Below pb wx w':=fun wx hb=>(cF wx hb).mono fun e w' h=>⟨h.2,h.1⟩
  go_enter Tryz.func110,Tryz.ntmps110
  go_wp2
  go_quiet (fail)
  go_wp2
  go_quiet ((go_at_call 159;go_must (exact Zdi (cP _))))
  go_wp2_with (go_at_fn f;refine(cF _ (below_drewN (Below.refl _ w) _)).mono ?_;rintro e w' ⟨rfl,hB⟩)
  refine⟨rfl,?_⟩
  have e:=HO.out
  subst e
  exact⟨rfl,((below_drewN (Below.refl _ w) _).mono hpw).trans hB⟩
 | some q=>
  replace cF:∀ wx,Below w.heap.size w wx->Calls Tryz.prog f #[.string A,.pointer (some ⟨pb,0,none⟩)] wx fun e w'=>e=.returned (.tuple #[])/\Znn w' pb q/\Below pb wx w':=fun wx hb=>(cF wx hb).mono fun e w' h=>⟨h.2.1,h.2.2,h.1⟩
  go_enter Tryz.func110,Tryz.ntmps110
  go_wp2
  go_quiet (fail)
  go_wp2
  go_quiet ((go_at_call 159;go_must (exact Zdi (cP _))))
  go_wp2_with fail
  refine(cF _ (below_drewN (Below.refl _ w) _)).mono ?_
  rintro e w1 ⟨rfl,hQ,hB⟩
  replace hB:Below pb w w1:=((below_drewN (Below.refl _ w) _).mono hpw).trans hB
  have hR1:=HR.out.below hB hlp
  have r1:=hR1.c1
  have rf:=hR1.fz 1
  have HR1:=hid hR1
  clear hR1 q0 q1 q2
  go_wp2
  go_ret
  have e:=HO.out
  subst e
  exact⟨rfl,HR1.out.next hk,hQ.set hrb,(hB.mono (Nat.le_of_lt hrb)).setCell ler _,(Zn8.below hB).set⟩
theorem Z8r(T:ByteArray)(f:FuncId)(st:List UInt8->Option M.Pk)(w:World)(rb lb pb:Nat)(ps:List ByteArray)(k:Nat)(p:M.Pk)(hR:RAt w rb lb ps k)(hQ:Znn w pb p)(hl:ps.length<=100000)(hlp:lb<pb)
 (hsz:∀ q∈ps,q.size<=100000) (he:∀ args w,(callFunc f args).run Tryz.prog w=.ok (.enter f args) w)
 (cF:∀ (A:ByteArray) wx,A.size<=100000->Below w.heap.size w wx->Calls Tryz.prog f #[.string A,.pointer (some ⟨pb,0,none⟩)] wx (Zkw (st A.data.toList) pb wx)):
 Calls Tryz.prog 110 #[.pointer (some ⟨rb,0,none⟩),.string T,.func (.func f) #[] #[.pointer (some ⟨pb,0,none⟩)]] w (Ztr (Zh8 T.data.toList st (ps.map fun q=>q.data.toList) k p) rb lb pb ps w):=by
 have hpw:=hQ.lt
 have hrb:rb<pb:=Nat.lt_trans hR.lt hlp
 have stay:∀ w',Below w.heap.size w w'->RAt w' rb lb ps k/\Znn w' pb p/\Below rb w w'/\Zn8 w w' rb pb:=fun w' hb=>⟨hR.below (hb.mono (Nat.le_of_lt hpw)) hlp,hQ.below hb,hb.mono (by omega),Zn8.below (hb.mono (Nat.le_of_lt hpw))⟩
 by_cases hk:k<ps.length
 ·have e1:(ps.map fun q=>q.data.toList)[k]? = some ps[k].data.toList:=by simp[hk]
  unfold Zh8
  rw[e1]
  cases hp:Lib.hasPrefix ps[k].data.toList T.data.toList with
  | false=>
   simp only[hp,Bool.false_eq_true,if_false]
   exact(Z4y T _ w rb lb ps k hR hk hl hp).mono fun e w' h=>⟨h.1,stay w' h.2⟩
  | true=>
   obtain⟨A,hA⟩:=Zd9 (Lib.trimPrefix ps[k].data.toList T.data.toList)
   have hA2:A.data.toList=ps[k].data.toList.drop T.data.toList.length:=by rw[hA];unfold Lib.trimPrefix;rw[if_pos hp]
   have hAs:A.size<=100000:=by
    have h1:=hsz _ (List.getElem_mem hk)
    have h2:=Zaq ps[k]
    have h3:=Zt6 ps[k].data.toList T.data.toList
    rw[Zcy hA]
    omega
   simp only[hp,if_true]
   have:=Z74 T A f (st A.data.toList) w rb lb pb ps k hR hk hl hlp (Nat.le_of_lt hpw) (fun wx=>Zmb ps[k] T A _ wx hA.symm hp) he (fun wx hb=>cF A wx hAs hb)
   rw[hA2] at this
   cases ho:st (ps[k].data.toList.drop T.data.toList.length) with
   | none=>rw[ho] at this;exact this
   | some q=>rw[ho] at this;exact this
 ·have e1:(ps.map fun q=>q.data.toList)[k]? = none:=by simp;omega
  have hkk:k=ps.length:=by have:=hR.kl;omega
  unfold Zh8
  rw[e1]
  exact(Z7k T _ w rb lb ps k hR hkk).mono fun e w' h=>⟨h.1,stay w' h.2⟩
end Go.Proofs.YtgnfknjopafngabGreatDoor
namespace Go.Proofs.YtgnfknjopafngabGreatDoor
open Go
def Z44(x y:M.Fl):Bool:=decide (Lib.compareBytes x.path y.path<0)
theorem Z5e:∀ (a b:List UInt8),Op.bytesLess a b=decide (Lib.compareBytes a b<0)
 | [],[]=>by decide
 | [],_ :: _=>by simp[Op.bytesLess,Lib.compareBytes]
 | _ :: _,[]=>by simp[Op.bytesLess,Lib.compareBytes]
 | x :: a,y :: b=>by
  have ih:=Z5e a b
  unfold Op.bytesLess Lib.compareBytes
  by_cases h1:x<y
  ·simp[h1]
  ·by_cases h2:y<x
   ·have:¬ x=y:=fun e=>h1 (e ▸ h2)
    simp[h1,h2,this]
   ·have:x=y:=UInt8.le_antisymm (UInt8.not_lt.1 h2) (UInt8.not_lt.1 h1)
    simp[this,ih]
theorem Yc6 [Inhabited M.Fl](l:List M.Fl)(k:Nat)(h:k+1<l.length):Sort.swp l.toArray (k+1) k=(M.swapAt l k).toArray:=by
 unfold Sort.swp M.swapAt
 rw[List.getElem?_eq_getElem (by omega),List.getElem?_eq_getElem h]
 rw[getElem!_pos l.toArray k (by simp;omega),getElem!_pos l.toArray (k+1) (by simpa using h)]
 simp
theorem Z90 [Inhabited M.Fl]:∀ (k:Nat) (l:List M.Fl),k<l.length->Sort.insInner Z44 0 k l.toArray=(M.bub k l).toArray
 | 0,l,_=>rfl
 | k+1,l,h=>by
  unfold Sort.insInner M.bub
  rw[List.getElem?_eq_getElem (by omega),List.getElem?_eq_getElem h]
  rw[getElem!_pos l.toArray k (by simp;omega),getElem!_pos l.toArray (k+1) (by simpa using h)]
  simp only[List.getElem_toArray,Z44,Z5e,decide_eq_true_eq,Nat.zero_lt_succ,gt_iff_lt,decide_true,Bool.true_and]
  by_cases hc:Lib.compareBytes l[k+1].path l[k].path<0
  ·rw[if_pos hc,if_pos hc,Yc6 l k h]
   exact Z90 k (M.swapAt l k) (by rw[M.Zg9];omega)
  ·rw[if_neg hc,if_neg hc]
theorem Zyy [Inhabited M.Fl]:∀ (m i:Nat) (l:List M.Fl),l.length<=m+i->Sort.insOuter Z44 0 l.length i l.toArray=(M.srt m i l).toArray
 | 0,i,l,h=>by
  rw[Sort.insOuter,if_neg (by omega)];rfl
 | m+1,i,l,h=>by
  rw[Sort.insOuter,M.srt]
  by_cases hi:i<l.length
  ·rw[if_pos hi,if_pos hi,Z90 i l hi]
   have:=Zyy m (i+1) (M.bub i l) (by rw[M.Zo0];omega)
   rw[M.Zo0] at this
   exact this
  ·rw[if_neg hi,if_neg hi]
end Go.Proofs.YtgnfknjopafngabGreatDoor
namespace Go.Proofs.YtgnfknjopafngabGreatDoor
open Go.RowKit Go.Sort Go.Shelf
theorem Zw0(x y:M.Fl)(W:World):
 Calls Tryz.prog 123 #[.agg #[Zbe x.path,Zbe x.content],.agg #[Zbe y.path,Zbe y.content]] W fun e w'=>e=.returned (.int .i64 (Lib.compareBytes x.path y.path))/\∃ q os',w'=grow (W.drewN q) os':=by
 obtain⟨P,C⟩:=x
 obtain⟨P2,C2⟩:=y
 have hcon:=fun W'=>Tryz.strings_Compare ⟨P.toArray⟩ ⟨P2.toArray⟩ W'
 have e0:Lib.compareBytes (ByteArray.mk P.toArray).data.toList (ByteArray.mk P2.toArray).data.toList=Lib.compareBytes P P2:=rfl
 rw[e0] at hcon
 unfold Zbe
 generalize Lib.compareBytes P P2=r at hcon ⊢
 go_enter Tryz.func123,Tryz.ntmps123
 go_wp2_with (go_at_call 106;refine(hcon _).mono ?_;rintro e w' ⟨rfl,rfl⟩)
 go_ret
 exact⟨rfl,0,_,by rw[alloc_eq_grow,alloc_eq_grow,grow_grow];rfl⟩
theorem Zw1(fv:Value)(w:World):
 Calls Tryz.prog 221 #[.slice none 0 0,.int .i64 0,.int .i64 0,fv] w fun e w'=>e=.returned (.tuple #[])/\w'=w:=by
 go_enter Tryz.func221,Tryz.ntmps221
 go_wp2
 refine wp_loop_rounds 1 ?_
 rw[rounds_succ]
 go_wp2
 go_end0
 exact⟨rfl,rfl⟩
theorem Ybt(lim:Int)(fv:Value)(w:World):
 Calls Tryz.prog 169 #[.slice none 0 0,.int .i64 0,.int .i64 0,.int .i64 lim,fv] w fun e w'=>e=.returned (.tuple #[])/\w'=w:=by
 have hi:=Zw1 fv
 go_enter Tryz.func169,Tryz.ntmps169
 go_wp2
 refine wp_loop_rounds 1 ?_
 rw[rounds_succ]
 go_wp2_with (go_at_call 221;refine(hi _).mono ?_;rintro e w' ⟨rfl,rfl⟩)
 (try simp only[Exit.inBlock,Exit.then]);refine bodyPost_ret (results_none rfl _ _ _) rfl ?_
 exact⟨rfl,rfl⟩
theorem Z8g(fv:Value)(w:World):
 Calls Tryz.prog 122 #[.slice none 0 0,fv] w fun e w'=>e=.returned (.tuple #[])/\w'=w:=by
 have hp:=fun lim=>Ybt lim fv
 have hl:∀ W,Calls Tryz.prog 170 #[.int .u64 0] W fun e w'=>e=.returned (.int .i64 (Lib.bitLen 0:Nat))/\w'=W:=fun W=>Tryz.bits_Len 0 W (by omega) (by omega)
 go_enter Tryz.func122,Tryz.ntmps122
 go_wp2_with (first|(go_at_call 170;refine(hl _).mono ?_;rintro e w' ⟨rfl,rfl⟩)|(go_at_call 169;refine(hp _ _).mono ?_;rintro e w' ⟨rfl,rfl⟩))
 go_end0
 exact⟨rfl,rfl⟩
theorem Zpi [Inhabited M.Fl]{w:World}{g n:Nat}{os:Array Obj}(d:Array M.Fl):w.grownBy (sortWorldK Zej 2 w g 0 n d os) (some g):=by
 unfold sortWorldK putRowK
 refine⟨rfl,rfl,rfl,by simp,fun k hk hne=>?_⟩
 rw[heap_grow_old _ _ (by simpa using hk)]
 have:g≠k:=fun e=>hne (by rw[e])
 simp[putRow,mapBlock,Sort.ahead,Array.getElem?_modify,this]
theorem Zs2 [Inhabited M.Fl]{w:World}{g n:Nat}{os:Array Obj}(d:Array M.Fl){cur:Array Value}{e:TypeId}{fz:Nat × Nat}(hg:w.heap[g]? = some (.cells cur e fz))(h:Zh6 (sortWorldK Zej 2 w g 0 n d os) g):e=9:=by
 obtain⟨c,f,he⟩:=h
 unfold sortWorldK putRowK at he
 have hlt:=(Array.getElem?_eq_some_iff.1 hg).1
 rw[heap_grow_old _ _ (by simpa [putRow,mapBlock,Sort.ahead] using hlt)] at he
 simp[putRow,mapBlock,Sort.ahead,Array.getElem?_modify,hg,onCells] at he
 exact he.2.1
theorem flat_get [Inhabited M.Fl](l:List M.Fl)(t:Nat)(h:t<l.length*2):(Zaf l)[t]? = some ((flatK Zej 2 l.toArray)[t]!):=by
 rw[get_flatK _ _ _ _ (by simpa using h)]
 have hd:t / 2<l.length:=by omega
 rw[getElem!_pos l.toArray (t / 2) (by simpa using hd)]
 rcases Nat.mod_two_eq_zero_or_one t with h0|h0
 ·have:=Zgp hd
  rw[show 2*(t / 2)=t by omega] at this
  rw[this,h0];rfl
 ·have:=Zo5 hd
  rw[show 2*(t / 2)+1=t by omega] at this
  rw[this,h0];rfl
theorem Z9x:∀ (m i:Nat) (l:List M.Fl),(M.srt m i l).length=l.length
 | 0,_,l=>rfl
 | m+1,i,l=>by
  unfold M.srt
  split
  ·rw[Z9x m,M.Zo0]
  ·rfl
theorem Z31(l:List M.Fl):(M.Zcs l).length=l.length:=Z9x _ _ _
def Z8v(l:List M.Fl)(v:Value)(w:World)(e:Ending)(w':World):Prop:=
 e=.returned (.tuple #[])/\w.grownBy w' v.ownBlock/\Zas w' 0 w'.heap.size v l.length (Zaf (M.Zcs l))
theorem Z70(l:List M.Fl)(v:Value)(B:Nat)(w:World)(h:w.ownsRow B 144 2 v l.length (Zaf l))(hl:l.length<=12):
 Calls Tryz.prog 122 #[v,.func (.func 123) #[] #[]] w (Z8v l v w):=by
 haveI:Inhabited M.Fl:=⟨⟨[],[]⟩⟩
 rcases Zas.own h with ⟨rfl,h0,_⟩|⟨g,cap,rfl,h1,h2,h3,h4⟩
 ·obtain rfl:=List.length_eq_zero_iff.mp h0
  refine(Z8g _ w).mono fun e w' hh=>?_
  obtain⟨he,rfl⟩:=hh
  exact⟨he,⟨rfl,rfl,rfl,Nat.le_refl _,fun _ _ _=>rfl⟩,.inl ⟨rfl,rfl,rfl⟩⟩
 ·have hH:HoldsK Zej 2 w g 0 l.toArray:=fun j hj=>by
   rw[size_flatK,List.size_toArray] at hj
   rw[Nat.zero_add]
   exact⟨h4 j _ (flat_get l j hj),h.frozenAt j⟩
  have hc:=AnyQ.slices_SortFunc_small Tryz.laySort 2 Tryz.isAgg144 Tryz.sizeOf144 Zej (fun _=>rfl) (fun x u hu=>by simp[Zej,Zbe] at hu;rcases hu with rfl|rfl <;> rfl)
   (fun x y=>Lib.compareBytes x.path y.path) 123 #[] g 0 cap l.toArray w (enters_of Tryz.func123 (by kernel_rfl) rfl) (fun _ _ _ _ x y=>Zw0 x y _) hH h3.1 (by simpa using hl)
   (fun n W hn=>(Tryz.bits_Len n W (by omega) (by omega)).mono fun _ _ ⟨he,hw⟩=>⟨⟨_,he⟩,hw⟩)
  rw[List.size_toArray] at hc
  refine hc.mono fun e w' hh=>?_
  obtain⟨he,n,os,hw⟩:=hh
  have es:Sort.insertionSort (ltOf fun x y:M.Fl=>Lib.compareBytes x.path y.path) l.toArray 0 l.length=(M.Zcs l).toArray:=by
   unfold Sort.insertionSort M.Zcs
   exact Zyy l.length 1 l (by omega)
  rw[es] at hw
  have hlen:(M.Zcs l).length=l.length:=Z31 l
  subst hw
  refine⟨he,Zpi _,.inr ⟨g,cap,rfl,h1,Nat.zero_le _,?_,fun j u hj=>?_⟩⟩
  ·refine⟨Nat.lt_of_lt_of_le h3.1 (size_sortWorldK_c _ _ _ _ _ _ _ _),fun e=>?_⟩
   obtain⟨_,⟨e',_⟩|⟨g',cap',cur,e',_,hgb,_⟩⟩:=h
   ·cases e'
   ·cases e'
    exact absurd (Zs2 _ hgb e) (by decide)
  ·have hh:=holdsK_sortWorldK_c Zej 2 w g 0 l.toArray (M.Zcs l).toArray n os hH h3.1 (by simpa using hlen)
   have hj2:j<(M.Zcs l).length*2:=by
    have:=(List.getElem?_eq_some_iff.1 hj).1
    rw[Zmu] at this
    exact this
   have:=(hh j (by rw[size_flatK,List.size_toArray];exact hj2)).1
   rw[Nat.zero_add] at this
   rw[this]
   have e2:=flat_get (M.Zcs l) j hj2
   rw[hj] at e2
   exact e2.symm
end Go.Proofs.YtgnfknjopafngabGreatDoor
