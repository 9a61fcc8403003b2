import Derived.Deep.RegionLaw
import Derived.Test.YtgnfknjopafngaaGreatDoorKuc
import GoSem.Op.String
set_option maxRecDepth 100000
set_option maxHeartbeats 2000000
namespace Go.Proofs.YtgnfknjopafngaaGreatDoor
open Go.RowKit
theorem Ycw:(Tryz.prog.info? 74).map (fun i=>(i.zero,i.size,i.bytes))=some (some (.agg #[.string ⟨#[]⟩,.string ⟨#[]⟩]),2,32):=by kernel_rfl
theorem Zpp{P:Program}{ops:Array Oper}{o:Oper}{a:Act}{w:World}{K:Act->World->Prop}{Q:Exit->Act->World->Prop}{E:Prop}(hgd:o.guard=none)(s x:Operand)(t:TypeId)
 (ho:o.op=.call { callee:=.builtin .append,args:=#[s,x],argTypes:=#[t,t] })
 (base:Nat) (e:TypeId) (i:TypeInfo) (z:Value) (size bytes:Nat) (ht:P.underlying t=some (.slice e)) (hi:P.info? e=some i) (hz:i.zero=some z)
 (hsize:i.size=size) (hby:i.bytes=bytes) (hzs:z.cells.size=size) (hsz:0<size)
 (v:Value) (n:Nat) (xs:List Value) (hs:a.eval s=v) (qV:w.ownsRow base e size v n xs)
 (ad:Addr) (m c:Nat) (news:List Value) (hx:a.eval x=.slice (some ad) m c) (hl:news.length=m*size) (hnews:∀ j u,news[j]? = some u->w.cell? (ad.add j)=some u) (h1:∀ u∈news,u.oneCell'=true)
 (h63:n+m<=maxLen) (hbytes:(n+m)*bytes<=140737488355328) (hbase:base<=w.heap.size)
 (h:∀ v' w',w'.ownsRow base e size v' (n+m) (xs++news)->w.grownBy w' v.ownBlock->(v'=.slice none 0 0↔v=.slice none 0 0/\m=0)->K (a.put o.dst v') w'):
 if Region.wanted o (yielded ops a.tmps)=true then Oper.wp P o a w K Q else E:=by
 rw[if_pos (by simp[Region.wanted,hgd])]
 exact wp_append_own _ s x t ho base e i z size bytes ht hi hz hsize hby hzs hsz v n xs hs qV ad m c news hx hl hnews h1 h63 hbytes hbase h
theorem Z8c{α:Type}(f:α->Bool)(l:List α)(k:Nat)(hk:k<l.length):(l.take (k+1)).all f=((l.take k).all f && f l[k]):=by
 rw[List.take_add_one,List.getElem?_eq_getElem hk,List.all_append];simp
theorem Zgp{l:List M.Fl}{k:Nat}(hk:k<l.length):(Zaf l)[2*k]? = some (Zbe l[k].path):=by
 induction l generalizing k with
 | nil=>simp at hk
 | cons f l ih=>
  cases k with
  | zero=>simp[Zaf,Zej]
  | succ k=>
   have:=ih (k:=k) (by simpa using hk)
   simp only[Zaf,List.flatMap_cons,Zej] at this ⊢
   rw[show 2*(k+1)=2*k+1+1 by omega]
   simpa using this
theorem Zjl{wx w2:World}{row:Option Nat}(hg:wx.grownBy w2 row)(b:Nat)(hb:b<wx.heap.size)(hne:some b≠row):
 ∀ o,w2.cell? ⟨b,o,none⟩=wx.cell? ⟨b,o,none⟩/\w2.frozen? ⟨b,o,none⟩=wx.frozen? ⟨b,o,none⟩:=fun o=>
 ⟨World.cell?_of_block (w:=wx) (a:=⟨b,o,none⟩) (hg.block b hb hne),World.frozen?_of_block (w:=wx) (a:=⟨b,o,none⟩) (hg.block b hb hne)⟩
theorem PAt.grown{w wx w2:World}{pb B:Nat}{p:M.Pk}{nv bv fv:Value}(h:PAt w pb B p nv bv fv)(hb:Below w.heap.size w wx)(hg:wx.grownBy w2 fv.ownBlock):
 (∀ g o,g<B->Zdr w w2 g o/\w2.frozen? ⟨g,o,none⟩=w.frozen? ⟨g,o,none⟩)/\w.heap.size<=w2.heap.size:=by
 have hz:=hb.size
 have hz2:=hg.size
 refine⟨fun g o hgB=>?_,by omega⟩
 have hl:=h.le
 have k:=Zjl hg g (by omega) (fun e=>by have:=(h.files.lt g e.symm).1;omega) o
 exact⟨(Zlf (hg.block g (by omega) (fun e=>by have:=(h.files.lt g e.symm).1;omega))).trans (Zcb hb (by show g < _;omega)),k.2.trans (hb.frozen (p:=⟨g,o,none⟩) (by show g < _;omega))⟩
theorem PAt.files'{w wx w2:World}{pb B:Nat}{p:M.Pk}{nv bv fv v':Value}{X Y:ByteArray}(h:PAt w pb B p nv bv fv)(hb:Below w.heap.size w wx)(hg:wx.grownBy w2 fv.ownBlock)
 (ho:w2.ownsRow B 74 2 v' (p.files.length+1) (Zaf p.files++[.string X,.string Y])):
 PAt (w2.setCell ⟨pb,4,none⟩ v') pb B { p with files:=p.files++[⟨X.data.toList,Y.data.toList⟩] } nv bv v':=by
 obtain⟨hk,hz⟩:=h.grown hb hg
 have hlt:=h.lt
 have kk:∀ g o,pb+1<=g->g<B->Zdr w (w2.setCell ⟨pb,4,none⟩ v') g o:=fun g o hg' hgB=>(Zk5 (by omega)).trans (hk g o hgB).1
 refine⟨?_,?_,?_,?_,?_,fun o=>?_,hlt,by rw[size_set];exact Nat.le_trans h.le hz,h.needs.keep kk,h.bars.keep kk,?_,h.nnil,fun e=>by simp at e⟩
 ·rw[Zag _ _ _ _ _ (by decide),(hk pb 0 hlt).1.1];exact h.c0
 ·rw[Zag _ _ _ _ _ (by decide),(hk pb 1 hlt).1.1];exact h.c1
 ·rw[Zag _ _ _ _ _ (by decide),(hk pb 2 hlt).1.1];exact h.c2
 ·rw[Zag _ _ _ _ _ (by decide),(hk pb 3 hlt).1.1];exact h.c3
 ·rw[World.cell?_setCell_same _ _ _ ((hk pb 4 hlt).1.1.trans h.c4)]
 ·rw[World.frozen?_setCell,(hk pb o hlt).2];exact h.fz o
 ·have e:Zaf (p.files++[M.Fl.mk X.data.toList Y.data.toList])=Zaf p.files++[.string X,.string Y]:=Zf4 _ _
  show World.ownsRow _ _ _ _ _ (p.files++[M.Fl.mk X.data.toList Y.data.toList]).length (Zaf (p.files++[M.Fl.mk X.data.toList Y.data.toList]))
  rw[e]
  exact ownsRow_setCell_below (by simpa using ho) hlt _
theorem Ybv{F:Option M.Fl}{X Y:List UInt8}{p:M.Pk}{okb b:Bool}{r:Option M.Pk}
 (hr:r=(match F with|none=>none|some f=>if p.files.all (M.apart f)=true then some { p with files:=p.files++[f] } else none)) (hF:flB F X Y) (ho:F.isSome=okb) (hb:b=(okb && p.files.all (M.apart ⟨X,Y⟩))):
 r.isSome=b/\(∀ p',r=some p'->p'={ p with files:=p.files++[⟨X,Y⟩] }):=by
 cases F with
 | none=>simp at ho;subst ho hb hr;exact⟨rfl,fun p' h=>by cases h⟩
 | some f=>
  obtain⟨h1,h2⟩:=hF f rfl
  obtain rfl:f=⟨X,Y⟩:=by cases f;cases h1;cases h2;rfl
  simp at ho
  subst ho
  simp only[Bool.true_and] at hb
  subst hr hb
  by_cases ha:p.files.all (M.apart ⟨X,Y⟩)=true
  ·simp only[ha,if_true];exact⟨rfl,fun p' h=>by cases h;rfl⟩
  ·rw[Bool.not_eq_true] at ha
   simp[ha]
theorem Z3u(s:ByteArray)(k:Nat)(w:World)(pb B:Nat)(p:M.Pk)(nv bv fv:Value)(hP:PAt w pb B p nv bv fv)(hk:0<k)(hk2:k<=1000000)(hl:s.size<=100000)
 (h3:M.begins s.data.toList M.Zfw=true) (h4:p.files.length<4) (hps:∀ f∈p.files,f.path.length<=1000000):
 Calls Tryz.prog 37 #[.pointer (some ⟨pb,0,none⟩),.int .i64 k,.string s] w (Zkq s k pb p w):=by
 obtain⟨i0,hi0,hz0,hz1,hz2⟩:=info_parts Ycw
 have b1:Zb9 s Zg7=false:=excl h3 (by decide)
 have b2:Zb9 s Zl2=false:=excl h3 (by decide)
 have b3:Zb9 s Zmf=true:=h3
 have hs5:5<=s.size:=by unfold M.begins at h3;simp[M.Zfw] at h3;omega
 have HE:Hid (M.Zbw p k s.data.toList=(match Zk3 (s.extract 5 s.size) with|none=>none|some f=>if p.files.all (M.apart f)=true then some { p with files:=p.files++[f] } else none)):=by
  show _ = _
  unfold M.Zbw Zk3
  rw[if_neg (by omega),if_neg (fun h=>by rw[show M.begins s.data.toList M.Zbi=false from b1] at h;exact absurd h.1 (by decide)),if_neg (fun h=>by rw[show M.begins s.data.toList M.Zcr=false from b2] at h;exact absurd h.1 (by decide)),if_pos ⟨h3,h4⟩,Zfc]
  cases M.Zjs (s.data.toList.drop 5) <;> rfl
 have hk0:((k:Int) == 0)=false:=by rw[beq_eq_false_iff_ne];omega
 have HPS:=hid hps
 obtain⟨an,cn,en⟩:=hP.needs.form
 obtain⟨ab,cb,eb⟩:=hP.bars.form
 obtain⟨af,cf,ef⟩:=Zac hP.files
 subst en eb ef
 clear h3 hps
 have q2:=hP.c2
 have q3:=hP.c3
 have q4:=hP.c4
 have cB:=fun wx t=>Zhh s t wx
 have cF:=fun wx=>Z79 (s.extract 5 s.size) wx (by have:=ext_size s 5 s.size;omega)
 go_enter Tryz.func37,Tryz.ntmps37
 go_wp2_with fail
 refine(cB _ Zg7).mono ?_
 rintro e w' ⟨rfl,rfl⟩
 go_wp2_with fail
 refine(cB _ Zl2).mono ?_
 rintro e w' ⟨rfl,rfl⟩
 go_wp2_with fail
 refine(cB _ Zmf).mono ?_
 rintro e w' ⟨rfl,rfl⟩
 go_wp2
 go_quiet (fail)
 go_wp2
 go_quiet (fail)
 go_wp2_with fail
 refine(cF _).mono ?_
 rintro e w1 ⟨X,Y,rfl,hXY,hXs,hB1⟩
 have hXs':X.size<=1000000:=by have:=ext_size s 5 s.size;omega
 clear hXs
 have hQ:=(hP.below (Zae w' _)).below hB1
 have HQ:=hid hQ
 have r4:=hQ.c4
 have rf:=hQ.fz
 have hpw:pb<w1.heap.size:=Nat.lt_of_lt_of_le hQ.lt hQ.le
 have qV:=hQ.files
 clear hQ q2 q3 q4 cB cF
 have HXY:=hid hXY
 clear hXY
 obtain⟨okb,HO⟩:∃ okb,Hid ((Zk3 (s.extract 5 s.size)).isSome=okb):=⟨_,rfl⟩
 rw[HO.out]
 go_wp2
 go_loopw [20,21,22,23] (fun o i _ _ wr=>∃ (n j:Nat) (b:Bool),o=.bool b/\i=.int .i64 j/\j<=p.files.length/\wr=(w1.alloc (.cells #[.string X,.string Y] 74)).drewN n/\Hid (b=(okb && (p.files.take j).all (M.apart ⟨X.data.toList,Y.data.toList⟩)))) (fun _ i _ _ _=>p.files.length-(intOf i).toNat)
 case atStart=>exact⟨0,0,okb,rfl,rfl,Nat.zero_le _,rfl,by show _ = _;simp⟩
 case round=>
  obtain⟨n,j,b,rfl,rfl,hj,rfl,HBb⟩:=hrel
  by_cases hlt:j<p.files.length
  ·have hrow:=Zas.own qV
   obtain⟨_,h0,_⟩|⟨g,cap,e,_,hgB,hg,hcells⟩:=hrow
   ·omega
   ·obtain⟨rfl,-,rfl⟩:af=some ⟨g,0,none⟩/\True/\cf=cap:=by cases e;exact⟨rfl,trivial,rfl⟩
    have cg:w1.cell? ⟨g,j*2,none⟩=some (.string ⟨p.files[j].path.toArray⟩):=hcells _ _ (by rw[Nat.mul_comm];exact Zgp hlt)
    have hGs:(ByteArray.mk p.files[j].path.toArray).size<=1000000:=HPS.out _ (List.getElem_mem hlt)
    have HAT:=Z8c (M.apart ⟨X.data.toList,Y.data.toList⟩) p.files j hlt
    replace HAT:Hid _:=HAT
    obtain⟨G,hG⟩:∃ G:ByteArray,G=⟨p.files[j].path.toArray⟩:=⟨_,rfl⟩
    have HG:Hid (p.files[j].path=G.data.toList):=by show _ = _;rw[hG]
    rw[<-hG] at cg hGs
    clear hG e hcells
    have cO1:=fun wx=>Zsn X G wx hXs'
    have cO2:=fun wx=>Zsn G X wx hGs
    have HAP:Hid (M.apart ⟨X.data.toList,Y.data.toList⟩ p.files[j]=(!Zho X G && !Zho G X && !(X.toList == G.toList))):=by
     show _ = _;unfold M.apart Zho;rw[HG.out,Lib.toList_data,Lib.toList_data]
    have hcase:∃ r:Bool,Hid (r=(b && M.apart ⟨X.data.toList,Y.data.toList⟩ p.files[j]))/\((b=false/\r=false)\/(b=true/\Zho X G=true/\r=false)\/(b=true/\Zho X G=false/\Zho G X=true/\r=false) \/
     (b=true/\Zho X G=false/\Zho G X=false/\(X.toList == G.toList)=true/\r=false)\/(b=true/\Zho X G=false/\Zho G X=false/\(X.toList == G.toList)=false/\r=true)):=by
     refine⟨b && (!Zho X G && !Zho G X && !(X.toList == G.toList)),by show _ = _;rw[HAP.out],?_⟩
     cases b <;> cases Zho X G <;> cases Zho G X <;> cases (X.toList == G.toList) <;> simp
    obtain⟨r,HRr,hcase⟩:=hcase
    have HN:Hid (r=(okb && (p.files.take (j+1)).all (M.apart ⟨X.data.toList,Y.data.toList⟩))):=by
     show _ = _;rw[HRr.out,HBb.out,HAT.out,Bool.and_assoc]
    clear HRr HBb HAT HAP
    rcases hcase with ⟨rfl,rfl⟩|⟨rfl,o1,rfl⟩|⟨rfl,o1,o2,rfl⟩|⟨rfl,o1,o2,o3,rfl⟩|⟨rfl,o1,o2,o3,rfl⟩
    all_goals
     go_wp2
     go_quiet ((go_at_call 64;go_must (exact Zdi (cO1 _))))
     go_wp2
     go_quiet ((go_at_call 64;go_must (exact Zdi (cO2 _))))
     go_wp2
     go_quiet (fail)
     go_wp2
     go_roundw
     case rel=>exact⟨_,j+1,_,rfl,by go_num,by omega,by first|exact Zlu _ _ _|rfl,HN⟩
     case measure=>simp[intOf];omega
  ·have HA:Hid (b=(okb && p.files.all (M.apart ⟨X.data.toList,Y.data.toList⟩))):=by
    show _ = _;rw[HBb.out,List.take_of_length_le (by omega)]
   clear HBb
   have hBl:B<=w1.heap.size:=HQ.out.le
   have hpB:pb<B:=HQ.out.lt
   have HPQ:Hid (∀ wx w2 v',Below w1.heap.size w1 wx->wx.grownBy w2 (Value.slice af p.files.length cf).ownBlock->w2.ownsRow B 74 2 v' (p.files.length+1) (Zaf p.files++[.string X,.string Y])->
    PAt (w2.setCell ⟨pb,4,none⟩ v') pb B { p with files:=p.files++[⟨X.data.toList,Y.data.toList⟩] } (.slice an p.needs.length cn) (.slice ab p.bars.length cb) v'):=fun wx w2 v' a b c=>PAt.files' HQ.out a b c
   have HPG:Hid (∀ wx w2,Below w1.heap.size w1 wx->wx.grownBy w2 (Value.slice af p.files.length cf).ownBlock->w2.cell? ⟨pb,4,none⟩=some (.slice af p.files.length cf)/\(∀ o,w2.frozen? ⟨pb,o,none⟩=false)):=fun wx w2 a b=>by
    obtain⟨hk,_⟩:=HQ.out.grown a b
    exact⟨(hk pb 4 hpB).1.1.trans HQ.out.c4,fun o=>(hk pb o hpB).2.trans (HQ.out.fz o)⟩
   have HBL:Hid (∀ wx w2,Below pb w1 wx->wx.grownBy w2 (Value.slice af p.files.length cf).ownBlock->w1.heap.size<=wx.heap.size->Below pb w1 w2):=fun wx w2 a b c=>a.grown b (by omega) (fun j hj=>by have:=(qV.lt j hj).1;omega)
   have HBX:Hid (∀ m,Below w1.heap.size w1 (((w1.alloc (.cells #[.string X,.string Y] 74)).drewN m).alloc (.cells #[.string X,.string Y] 74))):=fun m=>
    (below_drewN ((Below.refl _ w1).alloc ler _) m).alloc (by simp) _
   go_wp2
   go_region_law (refine Zpp rfl (.tmp 224) (.tmp 226) 28 rfl B 74 i0 (.agg #[.string ⟨#[]⟩,.string ⟨#[]⟩]) 2 32 Tryz.underlying28 hi0 hz0 hz1 hz2 rfl (by decide) _ _ _ (by simp[Act.eval];rfl) (by exact(qV.alloc _).alloc _) ⟨w1.heap.size+1,0,none⟩ 1 1 [.string X,.string Y] (by simp[Act.eval]) rfl (Zqy w1 _ [.string X,.string Y] _) (by intro u hu;simp at hu;rcases hu with rfl|rfl <;> rfl) (by unfold maxLen;omega) (by omega) (by simp;omega) ?_;intro v' w2 hown' hgrow _;have s5:=HPG.out _ _ (HBX.out _) hgrow;have HPQ3:Hid _:=HPQ.out _ _ _ (HBX.out _) hgrow hown';have HBL2:Hid (Below pb w1 w2):=HBL.out _ _ ((HBX.out _).mono (Nat.le_of_lt hpw)) hgrow (HBX.out _).size;obtain⟨av,cv,ev⟩:=Zac hown';subst ev;obtain⟨s4,sf⟩:=s5)
   all_goals
    go_wp2
    go_ret
    obtain⟨e1,e2⟩:=Ybv HE.out HXY.out HO.out HA.out
    refine⟨Zad e1.symm,fun p' hp'=>?_,?_⟩
    ·rw[e2 p' hp'];exact⟨_,_,_,_,HPQ3.out⟩
    ·exact(((Zae w' _).mono (Nat.le_of_lt (Nat.lt_of_lt_of_le hP.lt hP.le))).trans ((hB1.mono (Nat.le_of_lt (Nat.lt_of_lt_of_le hP.lt hP.le))).trans HBL2.out)).setCell ler _
theorem Yb9:(Tryz.prog.info? 27).map (fun i=>(i.zero,i.size,i.bytes))=some (some (.slice none 0 0),1,24):=by kernel_rfl
theorem Zvx{w:World}{B B' e e' size size' n n':Nat}{v u:Value}{xs ys:List Value}(h:w.ownsRow B e size v n xs)(k:w.ownsRow B' e' size' u n' ys)(he:e≠e'):u.ownBlock=none\/u.ownBlock≠v.ownBlock:=by
 obtain⟨_,⟨rfl,_⟩|⟨g,cap,cur,rfl,_,hg,_⟩⟩:=k
 ·exact .inl rfl
 ·right
  obtain⟨_,⟨rfl,_⟩|⟨g',cap',cur',rfl,_,hg',_⟩⟩:=h
  ·simp[Value.ownBlock]
  ·intro e1
   have e2:g=g':=by simpa [Value.ownBlock] using e1
   subst e2
   rw[hg] at hg'
   simp at hg'
   exact he hg'.2.symm
def Zcw(w:World)(B:Nat)(v:Value)(ls:List (List M.Ch)):Prop:=
 ∃ vs:List Value,w.ownsRow B 27 1 v ls.length vs/\∀ (i:Nat) x,ls[i]? = some x->∃ u,vs[i]? = some u/\w.ownsRow B 125 3 u x.length (Zak x)
theorem Zcw.nil(w:World)(B:Nat):Zcw w B (.slice none 0 0) []:=⟨[],World.ownsRow_nil _ _ _ _,fun i x h=>by simp at h⟩
theorem Zcw.below{w w':World}{B:Nat}{v:Value}{ls:List (List M.Ch)}(h:Zcw w B v ls)(hb:Below w.heap.size w w'):Zcw w' B v ls:=by
 obtain⟨vs,h1,h2⟩:=h
 exact⟨vs,own_below h1 hb,fun i x hx=>by obtain⟨u,a,b⟩:=h2 i x hx;exact⟨u,a,own_below b hb⟩⟩
theorem Zcw.set{w:World}{B b o:Nat}{v x:Value}{ls:List (List M.Ch)}(h:Zcw w B v ls)(hb:b<B):Zcw (w.setCell ⟨b,o,none⟩ x) B v ls:=by
 obtain⟨vs,h1,h2⟩:=h
 exact⟨vs,ownsRow_setCell_below h1 hb _,fun i y hy=>by obtain⟨u,a,c⟩:=h2 i y hy;exact⟨u,a,ownsRow_setCell_below c hb _⟩⟩
theorem Zcw.needs{w:World}{B lo:Nat}{v:Value}{ls:List (List M.Ch)}(h:Zcw w B v ls)(hl:lo<=B):Za9 w lo w.heap.size v ls:=by
 obtain⟨vs,h1,h2⟩:=h
 refine⟨vs,(Zas.own h1).wide hl ler,by have:=h1.1;omega,fun i x hx=>?_⟩
 obtain⟨u,a,b⟩:=h2 i x hx
 exact⟨u,a,(Zas.own b).wide hl ler⟩
theorem Zcw.push{w w1:World}{B:Nat}{v v' u:Value}{ls:List (List M.Ch)}{l:List M.Ch}{vs:List Value}{o:Obj}(h1:w.ownsRow B 27 1 v ls.length vs)
 (h2:∀ (i:Nat) x,ls[i]? = some x->∃ u,vs[i]? = some u/\w.ownsRow B 125 3 u x.length (Zak x))
 (hu:w.ownsRow B 125 3 u l.length (Zak l)) (ho:w1.ownsRow B 27 1 v' (ls.length+1) (vs++[u])) (hg:(w.alloc o).grownBy w1 v.ownBlock):Zcw w1 B v' (ls++[l]):=by
 have keep:∀ {x:Value} {n:Nat} {ys:List Value},w.ownsRow B 125 3 x n ys->w1.ownsRow B 125 3 x n ys:=fun hx=>
  (hx.alloc o).kept hg (Zvx h1 hx (by decide))
 have hl:vs.length=ls.length:=by have:=h1.1;omega
 refine⟨vs++[u],by simpa using ho,fun i x hx=>?_⟩
 by_cases hi:i<ls.length
 ·rw[List.getElem?_append_left hi] at hx
  obtain⟨y,a,b⟩:=h2 i x hx
  exact⟨y,by rw[List.getElem?_append_left (by omega)];exact a,keep b⟩
 ·rw[List.getElem?_append_right (by omega)] at hx
  have hi0:i-ls.length=0:=by
   by_cases e:i-ls.length=0
   ·exact e
   ·rw[List.getElem?_eq_none (by simp;omega)] at hx;cases hx
  rw[hi0] at hx
  simp at hx
  subst hx
  exact⟨u,by rw[List.getElem?_append_right (by omega),hl,hi0];rfl,keep hu⟩
structure Kept (w w':World) (pb:Nat):Prop where
 cells:∀ g o,g<w.heap.size->g≠pb->Zdr w w' g o
 own:∀ o,o≠2->w'.cell? ⟨pb,o,none⟩=w.cell? ⟨pb,o,none⟩
 fz:∀ o,w'.frozen? ⟨pb,o,none⟩=w.frozen? ⟨pb,o,none⟩
 size:w.heap.size<=w'.heap.size
 low:Below pb w w'
theorem Kept.refl(w:World)(pb:Nat):Kept w w pb:=⟨fun _ _ _ _=>Zlf rfl,fun _ _=>rfl,fun _=>rfl,Nat.le_refl _,Below.refl _ _⟩
theorem Kept.below{w w1 w2:World}{pb:Nat}(h:Kept w w1 pb)(hp:pb<w.heap.size)(hb:Below w1.heap.size w1 w2):Kept w w2 pb:=by
 have hs:=h.size
 refine⟨fun g o hg hn=>(Zcb hb (by show g < _;omega)).trans (h.cells g o hg hn),fun o ho=>(hb.cell (p:=⟨pb,o,none⟩) (by show pb < _;omega)).trans (h.own o ho),
  fun o=>(hb.frozen (p:=⟨pb,o,none⟩) (by show pb < _;omega)).trans (h.fz o),Nat.le_trans hs hb.size,h.low.trans (hb.mono (by omega))⟩
theorem Kept.push{w w1 wx w2:World}{pb:Nat}{v x:Value}{e size n:Nat}{xs:List Value}(h:Kept w w1 pb)(hp:pb<w.heap.size)(hb:Below w1.heap.size w1 wx)(ho:wx.ownsRow w.heap.size e size v n xs)(hg:wx.grownBy w2 v.ownBlock):
 Kept w (w2.setCell ⟨pb,2,none⟩ x) pb:=by
 have h1:=h.below hp hb
 have hz:=h1.size
 have k:∀ g o,g<w.heap.size->w2.cell? ⟨g,o,none⟩=wx.cell? ⟨g,o,none⟩/\w2.frozen? ⟨g,o,none⟩=wx.frozen? ⟨g,o,none⟩:=fun g o hgw=>by
  have hne:some g≠v.ownBlock:=fun e=>by have:=(ho.lt g e.symm).1;omega
  exact⟨World.cell?_of_block (w:=wx) (a:=⟨g,o,none⟩) (hg.block g (by omega) hne),World.frozen?_of_block (w:=wx) (a:=⟨g,o,none⟩) (hg.block g (by omega) hne)⟩
 refine⟨fun g o hgw hn=>?_,fun o hn=>?_,fun o=>?_,?_,?_⟩
 ·exact((Zk5 hn).trans (Zlf (hg.block g (by omega) (fun e=>by have:=(ho.lt g e.symm).1;omega)))).trans (h1.cells g o hgw hn)
 ·rw[Zag _ _ _ _ _ hn,(k pb o hp).1];exact h1.own o hn
 ·rw[World.frozen?_setCell,(k pb o hp).2];exact h1.fz o
 ·rw[size_set];exact Nat.le_trans hz hg.size
 ·exact(h1.low.grown hg (by omega) (fun j hj=>by have:=(ho.lt j hj).1;omega)).setCell ler _
theorem PAt.needs'{w w2:World}{pb B:Nat}{p:M.Pk}{nv bv fv v:Value}{ls:List (List M.Ch)}(h:PAt w pb B p nv bv fv)(hk:Kept w w2 pb)(hf:p.files=[])(hv:w2.cell? ⟨pb,2,none⟩=some v)(hls:ls≠[])
 (hG:Zcw w2 w.heap.size v ls):PAt w2 pb w2.heap.size { p with needs:=ls } v bv fv:=by
 have hlt:=h.lt
 have hle:=h.le
 have hs:=hk.size
 have e:=h.fnil hf
 subst e
 refine⟨(hk.own 0 (by decide)).trans h.c0,(hk.own 1 (by decide)).trans h.c1,hv,(hk.own 3 (by decide)).trans h.c3,(hk.own 4 (by decide)).trans h.c4,fun o=>(hk.fz o).trans (h.fz o),by omega,Nat.le_refl _,
  hG.needs (by omega),(h.bars.keep (fun g o hg1 hg2=>hk.cells g o (by omega) (by omega))).wide ler (by omega),?_,fun e=>absurd e hls,fun _=>rfl⟩
 show World.ownsRow _ _ _ _ _ p.files.length (Zaf p.files)
 rw[hf];exact World.ownsRow_nil _ _ _ _
def Zry(s:ByteArray):Option (List M.Ch):=Ze1 s ⟨#[32,124,32]⟩ 3
def Ya6(ps:List ByteArray)(k:Nat)(l:List (List M.Ch)):Prop:=M.Zfg M.Zf2 ((ps.take k).map (fun p=>p.data.toList))=some l
theorem Ybo{ps:List ByteArray}{k:Nat}{l:List (List M.Ch)}(h:Ya6 ps k l)(hk:k<ps.length)(c:List M.Ch)(hc:Zry ps[k]=some c):Ya6 ps (k+1) (l++[c]):=by
 unfold Ya6 at h ⊢
 rw[List.take_add_one,List.getElem?_eq_getElem hk]
 simp only[Option.toList_some,List.map_append,List.map_cons,List.map_nil]
 rw[Zgh _ _ _ _ h,show M.Zf2 ps[k].data.toList=some c from hc]
 rfl
theorem Yb1{ps:List ByteArray}{k:Nat}{l:List (List M.Ch)}(h:Ya6 ps k l)(hk:k<ps.length)(hc:Zry ps[k]=none):M.Zfg M.Zf2 (ps.map (fun p=>p.data.toList))=none:=by
 unfold Ya6 at h
 have e:ps.map (fun p=>p.data.toList)=((ps.take k).map (fun p=>p.data.toList)++[ps[k].data.toList])++(ps.drop (k+1)).map (fun p=>p.data.toList):=by
  have e1:ps=(ps.take k++[ps[k]])++ps.drop (k+1):=by
   rw[List.append_assoc,List.singleton_append,<-List.drop_eq_getElem_cons hk,List.take_append_drop]
  have e2:=congrArg (List.map (fun p:ByteArray=>p.data.toList)) e1
  rw[List.map_append,List.map_append] at e2
  exact e2
 rw[e]
 exact Zkv _ _ _ (by rw[Zgh _ _ _ _ h,show M.Zf2 ps[k].data.toList=none from hc];rfl)
theorem Z2m(s:ByteArray)(k:Nat)(w:World)(pb B:Nat)(p:M.Pk)(nv bv fv:Value)(hP:PAt w pb B p nv bv fv)(hk:0<k)(hk2:k<=1000000)(hl:s.size<=100000)
 (h1:M.begins s.data.toList M.Zbi=true) (h1':p.needs.length+p.bars.length+p.files.length=0):
 Calls Tryz.prog 37 #[.pointer (some ⟨pb,0,none⟩),.int .i64 k,.string s] w (Zkq s k pb p w):=by
 obtain⟨i0,hi0,hz0,hz1,hz2⟩:=info_parts Yb9
 have b1:Zb9 s Zg7=true:=h1
 have b2:Zb9 s Zl2=false:=excl h1 (by decide)
 have b3:Zb9 s Zmf=false:=excl h1 (by decide)
 have hn0:p.needs.length=0:=by omega
 have hb0:p.bars.length=0:=by omega
 have hf0:p.files.length=0:=by omega
 have hs6:6<=s.size:=by unfold M.begins at h1;simp[M.Zbi] at h1;omega
 obtain⟨ps,hps⟩:=Zdm (Zeh (s.extract 6 s.size) ⟨#[44,32]⟩)
 have HE:Hid (M.Zbw p k s.data.toList=(match M.Zfg M.Zf2 (ps.map (fun p=>p.data.toList)) with|none=>none|some l=>if l.length<=3 then some { p with needs:=l } else none)):=by
  show _ = _
  rw[<-hps]
  unfold M.Zbw Zeh
  rw[if_neg (by omega),if_pos ⟨h1,h1'⟩,Zfc]
  show (match M.Zfg M.Zf2 (M.Zcn (s.data.toList.drop 6) [44,32]) with|none=>none|some l=>if l.length<=3 then some { p with needs:=l } else none) = _
  rfl
 have hk0:((k:Int) == 0)=false:=by rw[beq_eq_false_iff_ne];omega
 have HF:Hid (p.files=[]):=List.length_eq_zero_iff.mp hf0
 have HN:Hid (p.needs=[]):=List.length_eq_zero_iff.mp hn0
 have hpl:0<ps.length:=by
  have e:(Zeh (s.extract 6 s.size) ⟨#[44,32]⟩).length=ps.length:=by rw[hps];simp
  have:=(M.Zbx (s.extract 6 s.size).data.toList [44,32]).1
  have:0<(Zeh (s.extract 6 s.size) ⟨#[44,32]⟩).length:=this
  omega
 have hpn:ps.length<=100001:=by
  have e:(Zeh (s.extract 6 s.size) ⟨#[44,32]⟩).length=ps.length:=by rw[hps];simp
  have:(Zeh (s.extract 6 s.size) ⟨#[44,32]⟩).length<=(s.extract 6 s.size).data.toList.length+1:=(M.Zbx (s.extract 6 s.size).data.toList [44,32]).2
  simp only[Array.length_toList,ByteArray.size_data] at this
  have:=ext_size s 6 s.size
  omega
 have HZ:Hid (∀ q∈ps,q.size<=100000):=fun q hq=>by have:=Zb7 hps q hq;have:=ext_size s 6 s.size;omega
 have cC:=fun wx=>Zto (s.extract 6 s.size) ⟨#[44,32]⟩ wx (by decide) (by have:=ext_size s 6 s.size;omega) (by decide) ps hps
 clear hps
 have enil:=hP.nnil HN.out
 obtain⟨ab,cb,eb⟩:=hP.bars.form
 obtain⟨af,cf,ef⟩:=Zac hP.files
 rw[hb0] at eb
 rw[hf0] at ef
 subst enil eb ef
 clear hb0 hf0 hn0 h1 h1'
 have q2:=hP.c2
 have q3:=hP.c3
 have q4:=hP.c4
 have cB:=fun wx t=>Zhh s t wx
 go_enter Tryz.func37,Tryz.ntmps37
 go_wp2_with fail
 refine(cB _ Zg7).mono ?_
 rintro e w' ⟨rfl,rfl⟩
 go_wp2_with fail
 refine(cB _ Zl2).mono ?_
 rintro e w' ⟨rfl,rfl⟩
 go_wp2_with fail
 refine(cB _ Zmf).mono ?_
 rintro e w' ⟨rfl,rfl⟩
 go_wp2
 go_quiet (fail)
 go_wp2_with fail
 refine(cC _).mono ?_
 rintro e w1 ⟨g,cap,rfl,hg1,hg2,hcap,hc,hB1⟩
 have hQ:=(hP.below (Zae w' _)).below hB1
 have HQ:=hid hQ
 have HC:=hid hc
 have hpw':pb<w'.heap.size:=Nat.lt_of_lt_of_le hP.lt hP.le
 have hpw:pb<w1.heap.size:=Nat.lt_of_lt_of_le hQ.lt hQ.le
 have hgp:g≠pb:=by have:=hg1;simp at this;omega
 have r2:=hQ.c2
 clear hQ q2 q3 q4 cB cC hc
 go_wp2
 go_loopw [14,15,16] (fun i _ _ wr=>∃ (j:Nat) (ls:List (List M.Ch)) (v:Value),i=.int .i64 j/\j<=ps.length/\ls.length=j/\wr.cell? ⟨pb,2,none⟩=some v/\Zcw wr w1.heap.size v ls/\Kept w1 wr pb/\Hid (Ya6 ps j ls)) (fun i _ _ _=>ps.length-(intOf i).toNat)
 case atStart=>exact⟨0,[],_,rfl,Nat.zero_le _,rfl,r2,Zcw.nil _ _,Kept.refl _ _,rfl⟩
 case round=>
  obtain⟨j,ls,v,rfl,hj,hlj,hv,hG,hK,HR⟩:=hrel
  by_cases hlt:j<ps.length
  ·have cj:wr.cell? ⟨g,j,none⟩=some (.string ps[j]):=(hK.cells g j hg2 hgp).1.trans (HC.out j hlt)
   have hpk:ps[j].size<=100000:=HZ.out _ (List.getElem_mem hlt)
   have cK:∀ wx,Calls Tryz.prog 62 #[.string ps[j],.string ⟨#[32,124,32]⟩,.int .i64 3] wx fun e w'=>∃ v l,e=.returned (.tuple #[v,.bool (Zry ps[j]).isSome])/\
    w'.ownsRow wx.heap.size 125 3 v l.length (Zak l)/\(∀ x,Zry ps[j]=some x->x=l)/\l.length<=ps[j].size+1/\Below wx.heap.size wx w':=fun wx=>Zpy ps[j] ⟨#[32,124,32]⟩ 3 wx (by decide) hpk (by decide) (by decide)
   cases hgr:Zry ps[j] with
   | none=>
    rw[hgr] at cK
    have HF0:Hid (M.Zbw p k s.data.toList=none):=by show _ = _;rw[HE.out,Yb1 HR.out hlt hgr]
    clear hgr
    go_wp2_with fail
    refine(cK _).mono ?_
    rintro e w2 ⟨u,l,rfl,hu,_,_,hB2⟩
    clear cK
    go_wp2
    go_ret
    exact⟨Zad (by rw[HF0.out];rfl),(fun p' h=>by rw[HF0.out] at h;cases h),((Zae w' _).mono (Nat.le_of_lt hpw')).trans ((hB1.mono (Nat.le_of_lt hpw')).trans (hK.low.trans (hB2.mono (by have:=hK.size;omega))))⟩
   | some c=>
    rw[hgr] at cK
    have HGR:=hid hgr
    clear hgr
    go_wp2_with fail
    refine(cK _).mono ?_
    rintro e w2 ⟨u,l,rfl,hu,hx,_,hB2⟩
    obtain rfl:=hx c rfl
    clear cK hx
    have hKs:=hK.size
    have hs2:=hB2.size
    have hv2:w2.cell? ⟨pb,2,none⟩=some v:=(hB2.cell (p:=⟨pb,2,none⟩) (by show pb < _;omega)).trans hv
    have hG2:=hG.below hB2
    obtain⟨vs,qV,hrows⟩:=hG2
    have HROWS:=hid hrows
    have hf2:∀ o,w2.frozen? ⟨pb,o,none⟩=false:=fun o=>(hB2.frozen (p:=⟨pb,o,none⟩) (by show pb < _;omega)).trans ((hK.fz o).trans (HQ.out.fz o))
    have hu':=Zf3 hu hKs
    clear hG hu hrows
    rw[hlj] at qV
    obtain⟨au,cu,eu⟩:=Zac hu'
    subst eu
    have HU:Hid (w2.ownsRow w1.heap.size 125 3 (.slice au c.length cu) c.length (Zak c)):=hu'
    clear hu'
    go_wp2_with (at_builtin;refine wpList_append_own _ rfl _ _ 26 rfl w1.heap.size 27 i0 (.slice none 0 0) 1 24 Tryz.underlying26 hi0 hz0 hz1 hz2 rfl (by decide) _ _ _ rfl (qV.alloc _) ⟨w2.heap.size,0,none⟩ 1 1 [.slice au c.length cu] rfl rfl ?c1 ?c2 ?c3 ?c4 ?c5 ?_)
    case c1=>exact Zca _ _ _
    case c2=>intro x hx;simp at hx;subst hx;rfl
    case c3=>unfold maxLen;omega
    case c4=>omega
    case c5=>simp;omega
    intro v' w3 hown' hgrow _
    have R1:Zcw w3 w1.heap.size v' (ls++[c]):=Zcw.push (by rw[hlj];exact qV) HROWS.out HU.out (by rw[hlj];exact hown') hgrow
    have R2:Kept w1 (w3.setCell ⟨pb,2,none⟩ v') pb:=hK.push hpw (hB2.alloc hs2 _) (qV.alloc _) hgrow
    have hne:some pb≠v.ownBlock:=fun h=>by have:=(qV.lt pb h.symm).1;omega
    have s2:w3.cell? ⟨pb,2,none⟩=some v:=(World.cell?_of_block (w:=w2.alloc _) (a:=⟨pb,2,none⟩) (hgrow.block pb (by simp;omega) hne)).trans ((World.cell?_alloc_past _ _ _ (by show pb < _;omega)).trans hv2)
    have s3:w3.frozen? ⟨pb,2,none⟩=false:=(World.frozen?_of_block (w:=w2.alloc _) (a:=⟨pb,2,none⟩) (hgrow.block pb (by simp;omega) hne)).trans ((World.frozen?_alloc_past _ _ _ (by show pb < _;omega)).trans (hf2 2))
    clear hgrow qV hK hv hv2 hf2
    obtain⟨av,cv,ev⟩:=Zac hown'
    subst ev
    clear hown'
    go_wp2
    go_roundw
    case rel=>exact⟨j+1,ls++[c],_,by go_num,by omega,by simp;omega,World.cell?_setCell_same _ _ _ s2,R1.set hpw,R2,Ybo HR.out hlt c HGR.out⟩
    case measure=>simp[intOf];omega
  ·have hjj:j=ps.length:=by omega
   have HE2:Hid (M.Zbw p k s.data.toList=if ls.length<=3 then some { p with needs:=ls } else none):=by
    have h:=HR.out
    unfold Ya6 at h
    rw[hjj,List.take_length] at h
    show _ = _
    rw[HE.out,h]
   have hG0:=hG
   obtain⟨vs,qV,_⟩:=hG0
   obtain⟨av,cv,ev⟩:=Zac qV
   subst ev
   have HPN:Hid (PAt wr pb wr.heap.size { p with needs:=ls } _ _ _):=PAt.needs' HQ.out hK HF.out hv (fun e=>by rw[e] at hlj;simp at hlj;omega) hG
   have HKL:=hid hK.low
   clear qV HE HR hG hK
   rw[hlj] at hv
   have hbl:Hid (Below pb w' wr):=((Zae w' _).mono (Nat.le_of_lt hpw')).trans ((hB1.mono (Nat.le_of_lt hpw')).trans HKL.out)
   go_wp2
   go_ret
   refine⟨Zad ?_,?_,hbl.out⟩
   ·rw[HE2.out]
    by_cases h3:ls.length<=3
    ·rw[if_pos h3];show decide _ = true;rw[decide_eq_true_iff];omega
    ·rw[if_neg h3];show decide _ = false;rw[decide_eq_false_iff_not];omega
   ·intro p' hp'
    rw[HE2.out] at hp'
    split at hp'
    ·cases hp';exact⟨_,_,_,_,HPN.out⟩
    ·cases hp'
structure Ycf (p:M.Pk):Prop where
 needs:p.needs.length<=3
 bars:p.bars.length<=3
 files:p.files.length<=4
 paths:∀ f∈p.files,f.path.length<=100000
theorem Zm2{s sep:List UInt8}{m:Nat}{l:List M.Ch}(h:M.Zbz s sep m=some l):l.length<=m:=by
 unfold M.Zbz at h
 split at h
 ·cases h
 ·split at h
  ·cases h;assumption
  ·cases h
theorem Z83{p p':M.Pk}{k:Nat}{s:List UInt8}(hp:Ycf p)(hs:s.length<=100000)(h:M.Zbw p k s=some p'):Ycf p':=by
 unfold M.Zbw at h
 split at h
 ·split at h
  ·cases h
  ·cases h;exact⟨hp.needs,hp.bars,hp.files,hp.paths⟩
 ·split at h
  ·split at h
   ·cases h
   ·split at h
    ·cases h;exact⟨by assumption,hp.bars,hp.files,hp.paths⟩
    ·cases h
  ·split at h
   ·split at h
    ·cases h
    ·rename_i l hl;cases h;exact⟨hp.needs,Zm2 hl,hp.files,hp.paths⟩
   ·split at h
    ·rename_i hc
     split at h
     ·cases h
     ·rename_i f hf
      split at h
      ·cases h
       refine⟨hp.needs,hp.bars,by simp;omega,fun g hg=>?_⟩
       rcases List.mem_append.mp hg with hg|hg
       ·exact hp.paths g hg
       ·simp at hg
        subst hg
        unfold M.Zjs at hf
        split at hf
        ·cases hf
        ·split at hf
         ·cases hf;simp;omega
         ·cases hf
      ·cases h
    ·cases h
theorem Z7l(s:ByteArray)(k:Nat)(w:World)(pb:Nat)(p:M.Pk)(hP:Ych w pb p)(hO:Ycf p)(hk2:k<=1000000)(hl:s.size<=100000):
 Calls Tryz.prog 37 #[.pointer (some ⟨pb,0,none⟩),.int .i64 k,.string s] w (Zkq s k pb p w):=by
 obtain⟨B,nv,bv,fv,hP⟩:=hP
 by_cases hk:k=0
 ·subst hk
  refine(Z6n s w pb B p nv bv fv hP hl).mono fun e w' ⟨h1,h2,h3⟩=>?_
  have e0:M.Zbw p 0 s.data.toList=(Zh7 s).map (fun x=>{ p with name:=x.1,ver:=x.2 }):=by
   unfold M.Zbw Zh7
   rw[if_pos rfl]
   cases M.Zew s.data.toList <;> rfl
  refine⟨by rw[e0,Option.isSome_map];exact h1,fun p' hp'=>?_,h3⟩
  rw[e0] at hp'
  cases ht:Zh7 s with
  | none=>rw[ht] at hp';cases hp'
  | some x=>rw[ht] at hp';cases hp';exact⟨B,nv,bv,fv,h2 x.1 x.2 ht⟩
 ·have hk':0<k:=by omega
  have o1:=hO.needs
  have o2:=hO.bars
  have o3:=hO.files
  by_cases h1:M.begins s.data.toList M.Zbi=true/\p.needs.length+p.bars.length+p.files.length=0
  ·exact Z2m s k w pb B p nv bv fv hP hk' hk2 hl h1.1 h1.2
  ·by_cases h2:M.begins s.data.toList M.Zcr=true/\p.bars.length+p.files.length=0
   ·exact Z5j s k w pb B p nv bv fv hP hk' hk2 hl h2.1 h2.2
   ·by_cases h3:M.begins s.data.toList M.Zfw=true/\p.files.length<4
    ·exact Z3u s k w pb B p nv bv fv hP hk' hk2 hl h3.1 h3.2 (fun f hf=>by have:=hO.paths f hf;omega)
    ·exact Z66 s k w pb B p nv bv fv hP hk' hk2 (by omega) (by omega) (by omega) h1 h2 h3
namespace M
def Zba:List (List UInt8)->Nat->Pk->Sum Nat Pk
 | [],_,p=>.inr p
 | l :: r,k,p=>match Zbw p k l with
  | none=>.inl (k+1)
  | some q=>Zba r (k+1) q
def Zat:Pk:=⟨[],[],[],[],[]⟩
def swapAt{α:Type}(l:List α)(k:Nat):List α:=match l[k]?,l[k+1]? with
 | some x,some y=>(l.set (k+1) x).set k y
 | _,_=>l
def bub:Nat->List Fl->List Fl
 | 0,l=>l
 | k+1,l=>match l[k]?,l[k+1]? with
  | some x,some y=>if Op.bytesLess y.path x.path=true then bub k (swapAt l k) else l
  | _,_=>l
def srt:Nat->Nat->List Fl->List Fl
 | 0,_,l=>l
 | m+1,i,l=>if i<l.length then srt m (i+1) (bub i l) else l
def Zcs(l:List Fl):List Fl:=srt l.length 1 l
def trimS(s:List UInt8):List UInt8:=if s.getLast? = some 10 then s.dropLast else s
def Zcp(s:List UInt8):Sum Nat Pk:=
 if 300<s.length then .inl 0
 else match Zba (Zcn (trimS s) [10]) 0 Zat with
  | .inl n=>.inl n
  | .inr p=>.inr { p with files:=Zcs p.files }
theorem Zg9{α:Type}(l:List α)(k:Nat):(swapAt l k).length=l.length:=by unfold swapAt;split <;> simp
theorem Zo0:∀ (k:Nat) (l:List Fl),(bub k l).length=l.length
 | 0,l=>rfl
 | k+1,l=>by
  unfold bub
  split
  ·split
   ·rw[Zo0 k,Zg9]
   ·rfl
  ·rfl
theorem Zpg{l:List (List UInt8)}:∀ (k:Nat) (p:Pk) (s:List UInt8) (r:List (List UInt8)) (q:Pk),Zba l k p=.inr q->Zba (l++s :: r) k p=(match Zbw q (k+l.length) s with|none=>.inl (k+l.length+1)|some q'=>Zba r (k+l.length+1) q'):=by
 induction l with
 | nil=>intro k p s r q h;simp only[Zba,Sum.inr.injEq] at h;subst h;rfl
 | cons a l ih=>
  intro k p s r q h
  simp only[Zba,List.cons_append] at h ⊢
  cases hp:Zbw p k a with
  | none=>rw[hp] at h;cases h
  | some p'=>
   rw[hp] at h
   show Zba (l++s :: r) (k+1) p' = _
   rw[ih (k+1) p' s r q h,List.length_cons,show k+1+l.length=k+(l.length+1) by omega]
def Zd5(c:Ch):List UInt8:=if c.sign=[] then c.name else c.name++[32,40]++c.sign++[32]++c.ver++[41]
def Zal(sep:List UInt8):List (List UInt8)->List UInt8
 | []=>[]
 | [x]=>x
 | x :: y :: r=>x++sep++Zal sep (y :: r)
theorem Zmg(sep:List UInt8):∀ (l:List (List UInt8)) (x:List UInt8),l≠[]->Zal sep (l++[x])=Zal sep l++sep++x
 | [],_,h=>absurd rfl h
 | [a],x,_=>by simp[Zal]
 | a :: b :: r,x,_=>by
  have ih:=Zmg sep (b :: r) x (by simp)
  simp only[List.cons_append,Zal] at ih ⊢
  rw[ih]
  simp[List.append_assoc]
def Zab(sep:List UInt8)(l:List Ch):List UInt8:=Zal sep (l.map Zd5)
def Zbq(l:List (List Ch)):List UInt8:=if l=[] then [] else [10,110,101,101,100,115,32]++Zal [44,32] (l.map (Zab [32,124,32]))
def Zct(l:List Ch):List UInt8:=if l=[] then [] else [10,98,97,114,115,32]++Zab [44,32] l
def Zcq(f:Fl):List UInt8:=[10,102,105,108,101,32]++f.path++[61]++f.content
def Zaz(p:Pk):List UInt8:=[112,97,99,107,97,103,101,32]++p.name++[32]++p.ver++Zbq p.needs++Zct p.bars++p.files.flatMap Zcq
end M
end Go.Proofs.YtgnfknjopafngaaGreatDoor
