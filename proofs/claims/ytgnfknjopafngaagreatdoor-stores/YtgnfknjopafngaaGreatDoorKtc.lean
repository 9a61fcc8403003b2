import Derived.Test.YtgnfknjopafngaaGreatDoorKtb
set_option maxRecDepth 100000
set_option maxHeartbeats 2000000
namespace Go.Proofs.YtgnfknjopafngaaGreatDoor
open Go.RowKit
def Yce(c:Int):Bool:=decide (c≠61)
def eqB(s:ByteArray):Nat:=M.lead Yce s.data.toList
def Zk3(s:ByteArray):Option M.Fl:=M.Zjs s.data.toList
def flB(x:Option M.Fl)(a b:List UInt8):Prop:=∀ y,x=some y->y.path=a/\y.content=b
theorem Z37(s:ByteArray)(h:eqB s=s.size):Zk3 s=none:=by
 unfold Zk3 M.Zjs
 rw[if_pos (by show eqB s = _;simpa using h)]
theorem Z7d(s:ByteArray)(h:eqB s<s.size):Zk3 s=if Zgn (s.extract 0 (eqB s))=true/\s.size-eqB s-1<=24 then some ⟨(s.extract 0 (eqB s)).data.toList,(s.extract (eqB s+1) s.size).data.toList⟩ else none:=by
 unfold Zk3 M.Zjs Zgn
 rw[if_neg (by show ¬ eqB s = _;simp;omega),Zc2,Zfc]
 simp only[Array.length_toList,ByteArray.size_data]
 rfl
theorem Z79(s:ByteArray)(w:World)(hl:s.size<=100000):
 Calls Tryz.prog 63 #[.string s] w fun e w'=>∃ A B:ByteArray,e=.returned (.tuple #[.agg #[.string A,.string B],.bool (Zk3 s).isSome])/\flB (Zk3 s) A.data.toList B.data.toList/\A.size<=s.size/\Below w.heap.size w w':=by
 go_enter Tryz.func63,Tryz.ntmps63
 go_wp2
 go_loop [4] (fun i=>∃ k:Nat,k<=s.size/\i=.int .i64 k/\Hid (∀ j (h:j<s.data.toList.length),j<k->Yce (s.data.toList[j]).toNat=true)) (fun i=>s.size-(intOf i).toNat)
 case atStart=>exact⟨0,Nat.zero_le _,rfl,fun j _ h=>by omega⟩
 case round=>
  obtain⟨k,hk1,rfl,HA⟩:=hrel
  by_cases hlt:k<s.size
  ·by_cases h1:(s[k].toNat:Int)=61
   ·have h1':((s[k].toNat:Int) != 61)=false:=by simpa using h1
    have HK:Hid (eqB s=k):=by
     show M.lead _ _ = _
     exact M.Zfy HA.out (by simpa using hk1) (fun _=>by show Yce s[k].toNat=false;unfold Yce;simp;omega)
    have ht:((k:Int) == s.size)=false:=by rw[beq_eq_false_iff_ne];omega
    have HF:=Z7d s (by rw[HK.out];omega)
    rw[HK.out] at HF
    replace HF:Hid _:=HF
    clear h1
    have cP:∀ wx,Calls Tryz.prog 104 #[.string (s.extract 0 k)] wx fun e w'=>e=.returned (.bool (Zgn (s.extract 0 k)))/\Below wx.heap.size wx w':=fun wx=>
     Z1s _ wx (by have:=ext_size s 0 k;omega)
    by_cases hp:Zgn (s.extract 0 k)=true
    ·by_cases hc:(s.size:Int)-k-1<=24
     ·have HE:Hid (Zk3 s=some ⟨(s.extract 0 k).data.toList,(s.extract (k+1) s.size).data.toList⟩):=by show _ = _;rw[HF.out,if_pos ⟨hp,by omega⟩]
      clear HF
      go_wp2_with fail
      refine(cP _).mono ?_
      rintro e w1 ⟨rfl,hB⟩
      obtain⟨hcl,hfz⟩:=Zna hB
      have hz:w.heap.size<w1.heap.size:=by have:=hB.size;simp at this;omega
      go_wp2
      go_region
      all_goals
       go_wp2
       refine bodyPost_ret (v:=.tuple #[.agg #[.string (s.extract 0 k),.string (s.extract (k+1) s.size)],.bool true]) (by simp[results,Tryz.results63,go_sem,hcl]) rfl ⟨s.extract 0 k,s.extract (k+1) s.size,?_,?_,ext_size _ _ _,?_⟩
       ·rw[HE.out];rfl
       ·rw[HE.out];intro y hy;cases hy;exact⟨rfl,rfl⟩
       ·exact(((bt ((Below.refl _ w).alloc ler _) hB).setCell ler _).setCell ler _).drew
     ·have HE:Hid (Zk3 s=none):=by show _ = _;rw[HF.out,if_neg (fun h=>by have:=h.2;omega)]
      have hd:decide ((s.size:Int)-k-1<=24)=false:=by simp;omega
      clear HF hc
      go_wp2_with fail
      refine(cP _).mono ?_
      rintro e w1 ⟨rfl,hB⟩
      obtain⟨hcl,hfz⟩:=Zna hB
      have hz:w.heap.size<w1.heap.size:=by have:=hB.size;simp at this;omega
      go_wp2
      go_region
      all_goals
       go_wp2
       refine bodyPost_ret (v:=.tuple #[.agg #[.string (s.extract 0 k),.string (s.extract (k+1) s.size)],.bool false]) (by simp[results,Tryz.results63,go_sem,hcl]) rfl ⟨s.extract 0 k,s.extract (k+1) s.size,?_,?_,ext_size _ _ _,?_⟩
       ·rw[HE.out];rfl
       ·rw[HE.out];intro y hy;cases hy
       ·exact(((bt ((Below.refl _ w).alloc ler _) hB).setCell ler _).setCell ler _).drew
    ·have hp':Zgn (s.extract 0 k)=false:=by simpa using hp
     have HE:Hid (Zk3 s=none):=by show _ = _;rw[HF.out,if_neg (fun h=>hp h.1)]
     clear HF hp
     go_wp2_with fail
     refine(cP _).mono ?_
     rintro e w1 ⟨rfl,hB⟩
     obtain⟨hcl,hfz⟩:=Zna hB
     have hz:w.heap.size<w1.heap.size:=by have:=hB.size;simp at this;omega
     go_wp2
     go_region
     all_goals
      go_wp2
      refine bodyPost_ret (v:=.tuple #[.agg #[.string (s.extract 0 k),.string (s.extract (k+1) s.size)],.bool false]) (by simp[results,Tryz.results63,go_sem,hcl]) rfl ⟨s.extract 0 k,s.extract (k+1) s.size,?_,?_,ext_size _ _ _,?_⟩
      ·rw[HE.out];rfl
      ·rw[HE.out];intro y hy;cases hy
      ·exact(((bt ((Below.refl _ w).alloc ler _) hB).setCell ler _).setCell ler _).drew
   ·have h1':((s[k].toNat:Int) != 61)=true:=by simpa using h1
    have H1:=hid h1
    clear h1
    go_wp2
    go_round
    case rel=>
     refine⟨k+1,by omega,by go_num,fun j hj hjk=>?_⟩
     by_cases hjk':j<k
     ·exact HA.out j hj hjk'
     ·obtain rfl:j=k:=by omega
      show Yce s[j].toNat=true
      unfold Yce;simp;have:=H1.out;omega
    case measure=>simp[intOf];omega
  ·have HE:Hid (Zk3 s=none):=Z37 s (by show M.lead _ _ = _;rw[M.Zfy HA.out (by simpa using hk1) (fun h=>by simp at h;omega)];omega)
   have ht:((k:Int) == s.size)=true:=by rw[beq_iff_eq];omega
   go_wp2
   refine bodyPost_ret (v:=.tuple #[.agg #[.string ⟨#[]⟩,.string ⟨#[]⟩],.bool false]) (by simp[results,Tryz.results63,go_sem]) rfl ⟨⟨#[]⟩,⟨#[]⟩,?_,?_,Nat.zero_le _,?_⟩
   ·rw[HE.out];rfl
   ·rw[HE.out];intro y hy;cases hy
   ·exact(Below.refl _ w).alloc ler _
def Zh6(w:World)(g:Nat):Prop:=∃ c f,w.heap[g]? = some (.cells c 9 f)
def Zdr(w w':World)(g o:Nat):Prop:=w'.cell? ⟨g,o,none⟩=w.cell? ⟨g,o,none⟩/\(Zh6 w' g->Zh6 w g)
theorem Zdr.trans{w w1 w2:World}{g o:Nat}(h:Zdr w1 w2 g o)(k:Zdr w w1 g o):Zdr w w2 g o:=⟨h.1.trans k.1,fun e=>k.2 (h.2 e)⟩
theorem Zlf{w w':World}{g o:Nat}(h:w'.heap[g]? = w.heap[g]?):Zdr w w' g o:=⟨World.cell?_of_block (a:=⟨g,o,none⟩) h,fun ⟨c,f,e⟩=>⟨c,f,h.symm.trans e⟩⟩
theorem Zcb{B:Nat}{w w':World}{g o:Nat}(h:Below B w w')(hg:g<B):Zdr w w' g o:=Zlf (h.block g hg)
theorem Zk5{w:World}{b o:Nat}{v:Value}{g o':Nat}(h:g≠b):Zdr w (w.setCell ⟨b,o,none⟩ v) g o':=Zlf (Below.heap_setCell _ _ _ _ h)
def Zas(w:World)(lo hi:Nat)(v:Value)(n:Nat)(xs:List Value):Prop:=
 (v=.slice none 0 0/\n=0/\xs=[])\/∃ g cap,v=.slice (some ⟨g,0,none⟩) n cap/\n<=cap/\lo<=g/\(g<hi/\(Zh6 w g->xs.length=n))/\∀ j u,xs[j]? = some u->w.cell? ⟨g,j,none⟩=some u
theorem Zas.form{w:World}{lo hi n:Nat}{v:Value}{xs:List Value}(h:Zas w lo hi v n xs):∃ a cap,v=.slice a n cap:=by
 obtain⟨rfl,rfl,rfl⟩|⟨g,cap,rfl,_⟩:=h
 ·exact⟨_,_,rfl⟩
 ·exact⟨_,_,rfl⟩
theorem Zas.keep{w w':World}{lo hi n:Nat}{v:Value}{xs:List Value}(h:Zas w lo hi v n xs)(hk:∀ g o,lo<=g->g<hi->Zdr w w' g o):Zas w' lo hi v n xs:=by
 obtain h|⟨g,cap,h1,h2,h3,h4,h5⟩:=h
 ·exact .inl h
 ·exact .inr ⟨g,cap,h1,h2,h3,⟨h4.1,fun e=>h4.2 ((hk g 0 h3 h4.1).2 e)⟩,fun j u hj=>(hk g j h3 h4.1).1.trans (h5 j u hj)⟩
theorem Zas.wide{w:World}{lo hi lo' hi' n:Nat}{v:Value}{xs:List Value}(h:Zas w lo hi v n xs)(h1:lo'<=lo)(h2:hi<=hi'):Zas w lo' hi' v n xs:=by
 obtain h|⟨g,cap,a,b,c,d,e⟩:=h
 ·exact .inl h
 ·exact .inr ⟨g,cap,a,b,by omega,⟨by omega,d.2⟩,e⟩
theorem Zas.own{w:World}{B e size n:Nat}{v:Value}{xs:List Value}(h:w.ownsRow B e size v n xs)(ht:e=9->size=1:=by decide):Zas w B w.heap.size v n xs:=by
 have hlt:=h.lt
 have hce:=fun g hg=>h.cells (g:=g) hg
 obtain⟨hl,⟨rfl,rfl⟩|⟨g,cap,cur,rfl,h2,h3,h4,_⟩⟩:=h
 ·exact .inl ⟨rfl,rfl,List.length_eq_zero_iff.mp (by omega)⟩
 ·refine .inr ⟨g,cap,rfl,h4,h2,⟨(hlt g rfl).2,fun ⟨c,f,he⟩=>?_⟩,fun j u hj=>?_⟩
  ·rw[h3] at he
   injection he with he
   injection he with _ he
   rw[hl,ht he,Nat.mul_one]
  have:=hce g rfl j u hj
  have e2:((⟨g,0,none⟩:Addr).add j)=⟨g,j,none⟩:=by unfold Addr.add;by_cases h:j=0 <;> simp[h]
  rwa [e2] at this
def Za9(w:World)(lo hi:Nat)(v:Value)(l:List (List M.Ch)):Prop:=
 ∃ vs:List Value,Zas w lo hi v l.length vs/\vs.length=l.length/\∀ (i:Nat) x,l[i]? = some x->∃ u,vs[i]? = some u/\Zas w lo hi u x.length (Zak x)
theorem Za9.keep{w w':World}{lo hi:Nat}{v:Value}{l:List (List M.Ch)}(h:Za9 w lo hi v l)(hk:∀ g o,lo<=g->g<hi->Zdr w w' g o):Za9 w' lo hi v l:=by
 obtain⟨vs,h1,h2,h3⟩:=h
 exact⟨vs,h1.keep hk,h2,fun i x hx=>by obtain⟨u,a,b⟩:=h3 i x hx;exact⟨u,a,b.keep hk⟩⟩
theorem Za9.nil(w:World)(lo hi:Nat):Za9 w lo hi (.slice none 0 0) []:=⟨[],.inl ⟨rfl,rfl,rfl⟩,rfl,fun i x h=>by simp at h⟩
theorem Za9.form{w:World}{lo hi:Nat}{v:Value}{l:List (List M.Ch)}(h:Za9 w lo hi v l):∃ a cap,v=.slice a l.length cap:=by
 obtain⟨vs,h1,_⟩:=h;exact h1.form
theorem Za9.wide{w:World}{lo hi lo' hi':Nat}{v:Value}{l:List (List M.Ch)}(h:Za9 w lo hi v l)(h1:lo'<=lo)(h2:hi<=hi'):Za9 w lo' hi' v l:=by
 obtain⟨vs,a,b,c⟩:=h
 exact⟨vs,a.wide h1 h2,b,fun i x hx=>by obtain⟨u,d,e⟩:=c i x hx;exact⟨u,d,e.wide h1 h2⟩⟩
def Zej(f:M.Fl):List Value:=[Zbe f.path,Zbe f.content]
def Zaf(l:List M.Fl):List Value:=l.flatMap Zej
theorem Zf4(l:List M.Fl)(f:M.Fl):Zaf (l++[f])=Zaf l++[Zbe f.path,Zbe f.content]:=by simp[Zaf,Zej]
theorem Zmu(l:List M.Fl):(Zaf l).length=l.length*2:=by
 induction l with
 | nil=>rfl
 | cons c l ih=>simp only[Zaf,List.flatMap_cons,List.length_append] at ih ⊢;rw[ih];simp[Zej];omega
structure PAt (w:World) (pb B:Nat) (p:M.Pk) (nv bv fv:Value):Prop where
 c0:w.cell? ⟨pb,0,none⟩=some (.string ⟨p.name.toArray⟩)
 c1:w.cell? ⟨pb,1,none⟩=some (.string ⟨p.ver.toArray⟩)
 c2:w.cell? ⟨pb,2,none⟩=some nv
 c3:w.cell? ⟨pb,3,none⟩=some bv
 c4:w.cell? ⟨pb,4,none⟩=some fv
 fz:∀ o,w.frozen? ⟨pb,o,none⟩=false
 lt:pb<B
 le:B<=w.heap.size
 needs:Za9 w (pb+1) B nv p.needs
 bars:Zas w (pb+1) B bv p.bars.length (Zak p.bars)
 files:w.ownsRow B 74 2 fv p.files.length (Zaf p.files)
 nnil:p.needs=[]->nv=.slice none 0 0
 fnil:p.files=[]->fv=.slice none 0 0
def Ych(w:World)(pb:Nat)(p:M.Pk):Prop:=∃ B nv bv fv,PAt w pb B p nv bv fv
theorem PAt.below{w w':World}{pb B:Nat}{p:M.Pk}{nv bv fv:Value}(h:PAt w pb B p nv bv fv)(hb:Below w.heap.size w w'):PAt w' pb B p nv bv fv:=by
 have hpb:pb<w.heap.size:=Nat.lt_of_lt_of_le h.lt h.le
 have k:∀ o,w'.cell? ⟨pb,o,none⟩=w.cell? ⟨pb,o,none⟩:=fun o=>hb.cell (p:=⟨pb,o,none⟩) hpb
 have kk:∀ g o,pb+1<=g->g<B->Zdr w w' g o:=fun g o _ hg=>Zcb hb (Nat.lt_of_lt_of_le hg h.le)
 exact⟨(k 0).trans h.c0,(k 1).trans h.c1,(k 2).trans h.c2,(k 3).trans h.c3,(k 4).trans h.c4,fun o=>(hb.frozen (p:=⟨pb,o,none⟩) hpb).trans (h.fz o),h.lt,Nat.le_trans h.le hb.size,h.needs.keep kk,h.bars.keep kk,own_below h.files hb,h.nnil,h.fnil⟩
theorem size_set(w:World)(a:Addr)(v:Value):(w.setCell a v).heap.size=w.heap.size:=by simp[World.setCell]
theorem Zg3(w:World)(b o:Nat)(v:Value)(g o':Nat)(h:g≠b):(w.setCell ⟨b,o,none⟩ v).cell? ⟨g,o',none⟩=w.cell? ⟨g,o',none⟩:=
 World.cell?_setCell_other _ _ _ _ (by intro e;cases e;exact h rfl)
theorem Zag(w:World)(b o:Nat)(v:Value)(o':Nat)(h:o'≠o):(w.setCell ⟨b,o,none⟩ v).cell? ⟨b,o',none⟩=w.cell? ⟨b,o',none⟩:=
 World.cell?_setCell_other _ _ _ _ (by intro e;cases e;exact h rfl)
theorem PAt.title{w:World}{pb B:Nat}{p:M.Pk}{nv bv fv:Value}(h:PAt w pb B p nv bv fv)(X Y:ByteArray):
 PAt ((w.setCell ⟨pb,0,none⟩ (.string X)).setCell ⟨pb,1,none⟩ (.string Y)) pb B { p with name:=X.data.toList,ver:=Y.data.toList } nv bv fv:=by
 have kk:∀ g o,pb+1<=g->g<B->Zdr w ((w.setCell ⟨pb,0,none⟩ (.string X)).setCell ⟨pb,1,none⟩ (.string Y)) g o:=fun g o hg _=>by
  exact((Zk5 (by omega)).trans (Zk5 (by omega)))
 have k1:(w.setCell ⟨pb,0,none⟩ (.string X)).cell? ⟨pb,1,none⟩=some (.string ⟨p.ver.toArray⟩):=(Zag _ _ _ _ _ (by decide)).trans h.c1
 refine⟨?_,?_,?_,?_,?_,fun o=>?_,h.lt,?_,h.needs.keep kk,h.bars.keep kk,?_,h.nnil,h.fnil⟩
 ·rw[Zag _ _ _ _ _ (by decide),World.cell?_setCell_same _ _ _ h.c0]
 ·rw[World.cell?_setCell_same _ _ _ k1]
 ·rw[Zag _ _ _ _ _ (by decide),Zag _ _ _ _ _ (by decide)];exact h.c2
 ·rw[Zag _ _ _ _ _ (by decide),Zag _ _ _ _ _ (by decide)];exact h.c3
 ·rw[Zag _ _ _ _ _ (by decide),Zag _ _ _ _ _ (by decide)];exact h.c4
 ·rw[World.frozen?_setCell,World.frozen?_setCell];exact h.fz o
 ·rw[size_set,size_set];exact h.le
 ·exact ownsRow_setCell_below (ownsRow_setCell_below h.files h.lt _) h.lt _
def Zh7(s:ByteArray):Option (List UInt8 × List UInt8):=M.Zew s.data.toList
theorem Ybp(s P0 P1 P2:ByteArray)(h:Zeh s ⟨#[32]⟩=[P0.data.toList,P1.data.toList,P2.data.toList]):
 Zh7 s=if (P0.toList == [112,97,99,107,97,103,101])=true/\Ze5 P1=true/\Zh2 P2=true then some (P1.data.toList,P2.data.toList) else none:=by
 unfold Zh7 M.Zew
 rw[show M.Zcn s.data.toList [32]=Zeh s ⟨#[32]⟩ from rfl,h,Lib.toList_data]
 rfl
theorem Z8j(s:ByteArray)(h3:(Zeh s ⟨#[32]⟩).length≠3):Zh7 s=none:=by
 unfold Zh7 M.Zew
 rw[show M.Zcn s.data.toList [32]=Zeh s ⟨#[32]⟩ from rfl]
 split
 ·rename_i e;rw[e] at h3;simp at h3
 ·rfl
def Zpc(s:ByteArray)(pb B:Nat)(p:M.Pk)(nv bv fv:Value)(w:World)(e:Ending)(w':World):Prop:=
 e=.returned (.bool (Zh7 s).isSome)/\(∀ a b,Zh7 s=some (a,b)->PAt w' pb B { p with name:=a,ver:=b } nv bv fv)/\Below pb w w'
theorem Zxm(s P0 P1 P2:ByteArray)(w:World)(pb B:Nat)(p:M.Pk)(nv bv fv:Value)(hP:PAt w pb B p nv bv fv)(hl:s.size<=100000)(h:Zeh s ⟨#[32]⟩=[P0.data.toList,P1.data.toList,P2.data.toList]):
 Calls Tryz.prog 37 #[.pointer (some ⟨pb,0,none⟩),.int .i64 0,.string s] w (Zpc s pb B p nv bv fv w):=by
 have hP1:P1.size<=s.size:=Zb7 (ps:=[P0,P1,P2]) h P1 (by simp)
 have hP2:P2.size<=s.size:=Zb7 (ps:=[P0,P1,P2]) h P2 (by simp)
 have cC:=fun wx=>Zto s ⟨#[32]⟩ wx (by decide) (by omega) (by decide) [P0,P1,P2] h
 have HT:=Ybp s P0 P1 P2 h
 replace HT:Hid _:=HT
 clear h
 have hpw:pb<w.heap.size:=Nat.lt_of_lt_of_le hP.lt hP.le
 by_cases h0:(P0.toList == [112,97,99,107,97,103,101])=true
 ·have hr:∃ r:Bool,Hid ((Zh7 s).isSome=r)/\(Ze5 P1=true/\Zh2 P2=r\/Ze5 P1=false/\r=false):=by
   cases hn:Ze5 P1 with
   | false=>exact⟨false,by show _ = _;rw[HT.out];simp[hn],.inr ⟨rfl,rfl⟩⟩
   | true=>
    cases hv:Zh2 P2 with
    | false=>exact⟨false,by show _ = _;rw[HT.out];simp[hv],.inl ⟨rfl,rfl⟩⟩
    | true=>exact⟨true,by show _ = _;rw[HT.out];simp[h0,hn,hv],.inl ⟨rfl,rfl⟩⟩
  obtain⟨r,HR,hr⟩:=hr
  rcases hr with ⟨hn,hv⟩|⟨hn,rfl⟩
  all_goals
   go_enter Tryz.func37,Tryz.ntmps37
   go_wp2_with fail
   refine(cC _).mono ?_
   rintro e w1 ⟨g,cap,rfl,hg1,hg2,hcap,hc,hB⟩
   have c0:w1.cell? ⟨g,0,none⟩=some (.string P0):=hc 0 (by simp)
   have c1:w1.cell? ⟨g,1,none⟩=some (.string P1):=hc 1 (by simp)
   have c2:w1.cell? ⟨g,2,none⟩=some (.string P2):=hc 2 (by simp)
   clear hc cC
   have hQ:=hP.below hB
   have HQ:=hid hQ
   have hgp:g≠pb:=by omega
   have q0:=hQ.c0
   have q1:=hQ.c1
   have qf:=hQ.fz
   clear hQ
   simp only[List.length_cons,List.length_nil,Nat.zero_add] at hcap ⊢
   go_wp2_with (first|(go_at_call 59;refine(Zee _ _ (by omega)).mono ?_;rintro e w' ⟨rfl,rfl⟩)|(go_at_call 60;refine(Ze8 _ _ (by omega)).mono ?_;rintro e w' ⟨rfl,rfl⟩))
   go_ret
   refine⟨Zad HR.out.symm,?_,?_⟩
   ·intro a b hab
    rw[HT.out] at hab
    split at hab
    ·cases hab;exact HQ.out.title P1 P2
    ·cases hab
   ·exact((hB.mono (show pb<=w.heap.size by omega)).setCell ler _).setCell ler _
 ·have h0':(P0.toList == [112,97,99,107,97,103,101])=false:=by simpa using h0
  have HE:Hid (Zh7 s=none):=by show _ = _;rw[HT.out,if_neg (fun h=>h0 h.1)]
  clear h0 HT
  go_enter Tryz.func37,Tryz.ntmps37
  go_wp2_with fail
  refine(cC _).mono ?_
  rintro e w1 ⟨g,cap,rfl,hg1,hg2,hcap,hc,hB⟩
  have c0:w1.cell? ⟨g,0,none⟩=some (.string P0):=hc 0 (by simp)
  clear hc cC
  simp only[List.length_cons,List.length_nil,Nat.zero_add] at hcap ⊢
  go_wp2
  go_ret
  exact⟨Zad (by rw[HE.out];rfl),(fun a b h=>by rw[HE.out] at h;cases h),hB.mono (by have:=hP.lt;have:=hP.le;omega)⟩
theorem Z3a(s:ByteArray)(ps:List ByteArray)(w:World)(pb B:Nat)(p:M.Pk)(nv bv fv:Value)(hP:PAt w pb B p nv bv fv)(hl:s.size<=100000)(h:Zeh s ⟨#[32]⟩=ps.map (fun p=>p.data.toList))(h3:ps.length≠3):
 Calls Tryz.prog 37 #[.pointer (some ⟨pb,0,none⟩),.int .i64 0,.string s] w (Zpc s pb B p nv bv fv w):=by
 have cC:=fun wx=>Zto s ⟨#[32]⟩ wx (by decide) (by omega) (by decide) ps h
 have HE:Hid (Zh7 s=none):=Z8j s (by rw[h];simpa using h3)
 have hn:ps.length<=100001:=by
  have e:(Zeh s ⟨#[32]⟩).length=ps.length:=by rw[h];simp
  have:(Zeh s ⟨#[32]⟩).length<=s.data.toList.length+1:=(M.Zbx s.data.toList [32]).2
  simp only[Array.length_toList,ByteArray.size_data] at this
  omega
 have t3:((ps.length:Int) != 3)=true:=by rw[bne_iff_ne];omega
 clear h
 go_enter Tryz.func37,Tryz.ntmps37
 go_wp2_with fail
 refine(cC _).mono ?_
 rintro e w1 ⟨g,cap,rfl,hg1,hg2,hcap,hc,hB⟩
 clear hc cC
 go_wp2
 go_ret
 exact⟨Zad (by rw[HE.out];rfl),(fun a b h=>by rw[HE.out] at h;cases h),hB.mono (by have:=hP.lt;have:=hP.le;omega)⟩
theorem Z6n(s:ByteArray)(w:World)(pb B:Nat)(p:M.Pk)(nv bv fv:Value)(hP:PAt w pb B p nv bv fv)(hl:s.size<=100000):
 Calls Tryz.prog 37 #[.pointer (some ⟨pb,0,none⟩),.int .i64 0,.string s] w (Zpc s pb B p nv bv fv w):=by
 obtain⟨ps,hps⟩:=Zdm (Zeh s ⟨#[32]⟩)
 by_cases h3:ps.length=3
 ·match ps,h3,hps with
  | [P0,P1,P2],_,hps=>exact Zxm s P0 P1 P2 w pb B p nv bv fv hP hl hps
 ·exact Z3a s ps w pb B p nv bv fv hP hl hps h3
def Zg7:ByteArray:=⟨#[110,101,101,100,115,32]⟩
def Zl2:ByteArray:=⟨#[98,97,114,115,32]⟩
def Zmf:ByteArray:=⟨#[102,105,108,101,32]⟩
theorem Zyk{s:List UInt8}{a b:UInt8}{t r:List UInt8}(h:M.begins s (a :: t)=true)(k:M.begins s (b :: r)=true):a=b:=by
 unfold M.begins at h k
 cases s with
 | nil=>simp at h
 | cons c s=>simp at h k;rw[<-h.2.1,<-k.2.1]
theorem excl{s:List UInt8}{a b:UInt8}{t r:List UInt8}(h:M.begins s (a :: t)=true)(hab:a≠b):M.begins s (b :: r)=false:=by
 cases k:M.begins s (b :: r) with
 | false=>rfl
 | true=>exact absurd (Zyk h k) hab
def Zkq(s:ByteArray)(k pb:Nat)(p:M.Pk)(w:World)(e:Ending)(w':World):Prop:=
 e=.returned (.bool (M.Zbw p k s.data.toList).isSome)/\(∀ p',M.Zbw p k s.data.toList=some p'->Ych w' pb p')/\Below pb w w'
theorem Z66(s:ByteArray)(k:Nat)(w:World)(pb B:Nat)(p:M.Pk)(nv bv fv:Value)(hP:PAt w pb B p nv bv fv)(hk:0<k)(hk2:k<=1000000)
 (hn:p.needs.length<=1000000) (hb:p.bars.length<=1000000) (hf:p.files.length<=1000000)
 (h1:¬ (M.begins s.data.toList M.Zbi=true/\p.needs.length+p.bars.length+p.files.length=0))
 (h2:¬ (M.begins s.data.toList M.Zcr=true/\p.bars.length+p.files.length=0))
 (h3:¬ (M.begins s.data.toList M.Zfw=true/\p.files.length<4)):
 Calls Tryz.prog 37 #[.pointer (some ⟨pb,0,none⟩),.int .i64 k,.string s] w (Zkq s k pb p w):=by
 have HE:Hid (M.Zbw p k s.data.toList=none):=by
  show _ = _
  unfold M.Zbw
  rw[if_neg (by omega),if_neg h1,if_neg h2,if_neg h3]
 have hc:(Zb9 s Zg7=true/\Zb9 s Zl2=false/\Zb9 s Zmf=false/\((p.needs.length:Int)+p.bars.length+p.files.length == 0)=false) \/
  (Zb9 s Zg7=false/\Zb9 s Zl2=true/\Zb9 s Zmf=false/\((p.bars.length:Int)+p.files.length == 0)=false) \/
  (Zb9 s Zg7=false/\Zb9 s Zl2=false/\Zb9 s Zmf=true/\decide ((p.files.length:Int)<4)=false) \/
  (Zb9 s Zg7=false/\Zb9 s Zl2=false/\Zb9 s Zmf=false):=by
  cases e1:M.begins s.data.toList M.Zbi with
  | true=>
   refine .inl ⟨e1,excl e1 (by decide),excl e1 (by decide),?_⟩
   rw[beq_eq_false_iff_ne];intro e;exact h1 ⟨e1,by omega⟩
  | false=>
   cases e2:M.begins s.data.toList M.Zcr with
   | true=>
    refine .inr (.inl ⟨e1,e2,excl e2 (by decide),?_⟩)
    rw[beq_eq_false_iff_ne];intro e;exact h2 ⟨e2,by omega⟩
   | false=>
    cases e3:M.begins s.data.toList M.Zfw with
    | true=>
     refine .inr (.inr (.inl ⟨e1,e2,e3,?_⟩))
     rw[decide_eq_false_iff_not];intro e;exact h3 ⟨e3,by omega⟩
    | false=>exact .inr (.inr (.inr ⟨e1,e2,e3⟩))
 clear h1 h2 h3
 have hk0:((k:Int) == 0)=false:=by rw[beq_eq_false_iff_ne];omega
 obtain⟨an,cn,en⟩:=hP.needs.form
 obtain⟨ab,cb,eb⟩:=hP.bars.form
 obtain⟨af,cf,ef⟩:=Zac hP.files
 subst en eb ef
 have q2:=hP.c2
 have q3:=hP.c3
 have q4:=hP.c4
 have cB:=fun wx t=>Zhh s t wx
 rcases hc with ⟨b1,b2,b3,hd⟩|⟨b1,b2,b3,hd⟩|⟨b1,b2,b3,hd⟩|⟨b1,b2,b3⟩
 all_goals
  go_enter Tryz.func37,Tryz.ntmps37
  go_wp2_with fail
  refine(cB _ Zg7).mono ?_
  rintro e w' ⟨rfl,rfl⟩
  go_wp2_with fail
  refine(cB _ Zl2).mono ?_
  rintro e w' ⟨rfl,rfl⟩
  go_wp2_with fail
  refine(cB _ Zmf).mono ?_
  rintro e w' ⟨rfl,rfl⟩
  go_wp2
  go_quiet (fail)
  go_wp2
  go_quiet (fail)
  go_wp2
  go_ret
  exact⟨Zad (by rw[HE.out];rfl),(fun p' h=>by rw[HE.out] at h;cases h),below_drewN (Below.refl _ _) _⟩
theorem PAt.bars'{w w1:World}{pb B:Nat}{p:M.Pk}{nv bv fv v:Value}{l:List M.Ch}(h:PAt w pb B p nv bv fv)(hb:Below w.heap.size w w1)(hf:p.files=[])
 (ho:w1.ownsRow w.heap.size 125 3 v l.length (Zak l)):PAt (w1.setCell ⟨pb,3,none⟩ v) pb w1.heap.size { p with bars:=l } nv v fv:=by
 have h1:=h.below hb
 have hpb:pb<w.heap.size:=Nat.lt_of_lt_of_le h.lt h.le
 have hz:=hb.size
 have kk:∀ g o,pb+1<=g->g<B->Zdr w1 (w1.setCell ⟨pb,3,none⟩ v) g o:=fun g o hg _=>Zk5 (by omega)
 have kk':∀ g o,w.heap.size<=g->g<w1.heap.size->Zdr w1 (w1.setCell ⟨pb,3,none⟩ v) g o:=fun g o hg _=>Zk5 (by omega)
 have e:=h.fnil hf
 subst e
 refine⟨?_,?_,?_,?_,?_,fun o=>?_,by omega,by rw[size_set];exact Nat.le_refl _,(h1.needs.keep kk).wide ler h1.le,((Zas.own ho).keep kk').wide (by omega) ler,?_,h.nnil,fun _=>rfl⟩
 ·rw[Zag _ _ _ _ _ (by decide)];exact h1.c0
 ·rw[Zag _ _ _ _ _ (by decide)];exact h1.c1
 ·rw[Zag _ _ _ _ _ (by decide)];exact h1.c2
 ·rw[World.cell?_setCell_same _ _ _ h1.c3]
 ·rw[Zag _ _ _ _ _ (by decide)];exact h1.c4
 ·rw[World.frozen?_setCell];exact h1.fz o
 ·show World.ownsRow _ _ _ _ _ p.files.length (Zaf p.files)
  rw[hf];exact World.ownsRow_nil _ _ _ _
theorem Z5j(s:ByteArray)(k:Nat)(w:World)(pb B:Nat)(p:M.Pk)(nv bv fv:Value)(hP:PAt w pb B p nv bv fv)(hk:0<k)(hk2:k<=1000000)(hl:s.size<=100000)
 (h2:M.begins s.data.toList M.Zcr=true) (h2':p.bars.length+p.files.length=0):
 Calls Tryz.prog 37 #[.pointer (some ⟨pb,0,none⟩),.int .i64 k,.string s] w (Zkq s k pb p w):=by
 have b1:Zb9 s Zg7=false:=excl h2 (by decide)
 have b2:Zb9 s Zl2=true:=h2
 have b3:Zb9 s Zmf=false:=excl h2 (by decide)
 have hb0:p.bars.length=0:=by omega
 have hf0:p.files.length=0:=by omega
 have hs5:5<=s.size:=by unfold M.begins at h2;simp[M.Zcr] at h2;omega
 have HE:Hid (M.Zbw p k s.data.toList=(Ze1 (s.extract 5 s.size) ⟨#[44,32]⟩ 3).map (fun l=>{ p with bars:=l })):=by
  show _ = _
  unfold M.Zbw Ze1
  rw[if_neg (by omega),if_neg (fun h=>by rw[show M.begins s.data.toList M.Zbi=false from b1] at h;exact absurd h.1 (by decide)),if_pos ⟨h2,h2'⟩,Zfc]
  show (match M.Zbz (s.data.toList.drop 5) [44,32] 3 with|none=>none|some l=>some { p with bars:=l }) = _
  cases M.Zbz (s.data.toList.drop 5) [44,32] 3 <;> rfl
 have hk0:((k:Int) == 0)=false:=by rw[beq_eq_false_iff_ne];omega
 have HF:Hid (p.files=[]):=List.length_eq_zero_iff.mp hf0
 obtain⟨an,cn,en⟩:=hP.needs.form
 obtain⟨ab,cb,eb⟩:=hP.bars.form
 obtain⟨af,cf,ef⟩:=Zac hP.files
 rw[hb0] at eb
 rw[hf0] at ef
 subst en eb ef
 clear hb0 hf0 h2 h2'
 have q2:=hP.c2
 have q3:=hP.c3
 have q4:=hP.c4
 have cB:=fun wx t=>Zhh s t wx
 have cC:=fun wx=>Zpy (s.extract 5 s.size) ⟨#[44,32]⟩ 3 wx (by decide) (by have:=ext_size s 5 s.size;omega) (by decide) (by decide)
 go_enter Tryz.func37,Tryz.ntmps37
 go_wp2_with fail
 refine(cB _ Zg7).mono ?_
 rintro e w' ⟨rfl,rfl⟩
 go_wp2_with fail
 refine(cB _ Zl2).mono ?_
 rintro e w' ⟨rfl,rfl⟩
 go_wp2_with fail
 refine(cB _ Zmf).mono ?_
 rintro e w' ⟨rfl,rfl⟩
 go_wp2
 go_quiet (fail)
 go_wp2
 go_quiet (fail)
 go_wp2_with fail
 refine(cC _).mono ?_
 rintro e w1 ⟨v,l,rfl,qV,hx,hll,hB1⟩
 have HP1:Hid (PAt (w1.setCell ⟨pb,3,none⟩ v) pb w1.heap.size { p with bars:=l } _ v _):=PAt.bars' (hP.below (Zae _ _)) hB1 HF.out qV
 have hQ:=(hP.below (Zae w' _)).below hB1
 have r3:=hQ.c3
 have rf:=hQ.fz
 have hpw:pb<w'.heap.size:=Nat.lt_of_lt_of_le hP.lt hP.le
 clear hQ q2 q3 q4
 obtain⟨av,cv,ev⟩:=Zac qV
 subst ev
 have HX:=hid hx
 clear hx qV
 go_wp2
 go_ret
 refine⟨Zad ?_,?_,?_⟩
 ·rw[HE.out,Option.isSome_map]
 ·intro p' hp'
  rw[HE.out] at hp'
  cases hc:Ze1 (s.extract 5 s.size) ⟨#[44,32]⟩ 3 with
  | none=>rw[hc] at hp';cases hp'
  | some x=>
   rw[hc] at hp'
   have:=HX.out x hc
   subst this
   cases hp'
   exact⟨_,_,_,_,HP1.out⟩
 ·exact(((Zae w' _).mono (Nat.le_of_lt hpw)).trans (hB1.mono (Nat.le_of_lt hpw))).setCell ler _
end Go.Proofs.YtgnfknjopafngaaGreatDoor
