import Derived.Test.YtgnfknjopafngabGreatDoorKae
set_option maxRecDepth 100000
set_option maxHeartbeats 1000000
namespace Go.Proofs.YtgnfknjopafngabGreatDoor
open Go.RowKit
structure Zgv (p:M.Pk):Prop where
 name:p.name.length<=8000
 ver:p.ver.length<=8000
 needn:p.needs.length<=1000
 needs:∀ l∈p.needs,Zk2 l
 bars:Zk2 p.bars
 filen:p.files.length<=1000
 files:∀ f∈p.files,f.path.length<=8000/\f.content.length<=8000
namespace M
def Zbs(p:Pk):List UInt8:=[112,97,99,107,97,103,101,32]++p.name++[32]++p.ver
end M
theorem Z8p(l:List (List M.Ch))(k:Nat)(hk:k<l.length)(S T H:List UInt8)(hS:S=H++M.Zbq (l.take k))(hT:T=M.Zab [32,124,32] l[k]):
 (k=0->S++[10,110,101,101,100,115,32]++T=H++M.Zbq (l.take (k+1)))/\(0<k->S++[44,32]++T=H++M.Zbq (l.take (k+1))):=by
 have e2:l.take (k+1)=l.take k++[l[k]]:=by rw[List.take_add_one,List.getElem?_eq_getElem hk];rfl
 refine⟨fun e=>?_,fun h0=>?_⟩
 ·subst e
  rw[hS,hT,e2]
  simp[M.Zbq,M.Zal]
 ·have hne:l.take k≠[]:=by
   intro e
   have:=congrArg List.length e
   rw[List.length_take,List.length_nil] at this;omega
  rw[hS,hT,e2]
  unfold M.Zbq
  rw[if_neg hne,if_neg (List.append_ne_nil_of_right_ne_nil _ (List.cons_ne_nil _ _)),List.map_append,List.map_cons,List.map_nil,M.Zmg _ _ _ (by intro e;exact hne (List.map_eq_nil_iff.mp e))]
  simp only[List.append_assoc]
theorem Z0g(l:List M.Fl)(k:Nat)(hk:k<l.length)(S H:List UInt8)(hS:S=H++(l.take k).flatMap M.Zcq):
 S++[10,102,105,108,101,32]++l[k].path++[61]++l[k].content=H++(l.take (k+1)).flatMap M.Zcq:=by
 have e2:l.take (k+1)=l.take k++[l[k]]:=by rw[List.take_add_one,List.getElem?_eq_getElem hk];rfl
 rw[hS,e2,List.flatMap_append]
 simp[M.Zcq]
theorem Za9.at{w:World}{hi:Nat}{a:Option Addr}{n c:Nat}{l:List (List M.Ch)}(h:Za9 w 0 hi (.slice a n c) l)(k:Nat)(hk:k<l.length):
 ∃ g au cu,a=some ⟨g,0,none⟩/\g<hi/\w.cell? ⟨g,k,none⟩=some (.slice au l[k].length cu)/\Zas w 0 hi (.slice au l[k].length cu) l[k].length (Zak l[k]):=by
 obtain⟨vs,h1,h2,h3⟩:=h
 obtain⟨u,hu,hr⟩:=h3 k _ (List.getElem?_eq_getElem hk)
 obtain⟨au,cu,e⟩:=hr.form
 obtain⟨_,h0,_⟩|⟨g,cap,e1,_,_,hg,hc⟩:=h1
 ·omega
 ·cases e1
  exact⟨g,au,cu,rfl,hg.1,by rw[hc k u hu,e],by rw[<-e];exact hr⟩
theorem Zas.cellAt{w:World}{hi:Nat}{a:Option Addr}{n c m:Nat}{xs:List Value}(h:Zas w 0 hi (.slice a n c) m xs)(hm:0<m):
 ∃ g,a=some ⟨g,0,none⟩/\g<hi/\n<=c/\∀ j u,xs[j]? = some u->w.cell? ⟨g,j,none⟩=some u:=by
 obtain⟨_,h0,_⟩|⟨g,cap,e1,e2,_,hg,hc⟩:=h
 ·omega
 ·cases e1
  exact⟨g,rfl,hg.1,e2,hc⟩
theorem Zvq(p:M.Pk)(v:Value)(w:World)(hv:Zc6 w p v)(hp:Zgv p):
 Calls Tryz.prog 101 #[v] w fun e w'=>∃ S:ByteArray,e=.returned (.string S)/\S.data.toList=M.Zaz p/\Below w.heap.size w w':=by
 obtain⟨nv,bv,fv,rfl,hn,hb,hf⟩:=hv
 obtain⟨an,cn,rfl⟩:=hn.form
 obtain⟨ab,cb,rfl⟩:=hb.form
 obtain⟨af,cf,rfl⟩:=hf.form
 obtain⟨X,hX⟩:∃ X:ByteArray,X=⟨p.name.toArray⟩:=⟨_,rfl⟩
 obtain⟨Y,hY⟩:∃ X:ByteArray,X=⟨p.ver.toArray⟩:=⟨_,rfl⟩
 have hXs:X.size<=8000:=by rw[hX];exact hp.name
 have hYs:Y.size<=8000:=by rw[hY];exact hp.ver
 have hnl:=hp.needn
 have hfl:=hp.filen
 have hbl:=hp.bars.1
 rw[<-hX,<-hY]
 have HX:Hid (X.data.toList=p.name):=by show _ = _;rw[hX]
 have HY:Hid (Y.data.toList=p.ver):=by show _ = _;rw[hY]
 clear hX hY
 replace hn:Hid (Za9 w 0 w.heap.size (.slice an p.needs.length cn) p.needs):=hn
 replace hb:Hid (Zas w 0 w.heap.size (.slice ab p.bars.length cb) p.bars.length (Zak p.bars)):=hb
 replace hf:Hid (Zas w 0 w.heap.size (.slice af p.files.length cf) p.files.length (Zaf p.files)):=hf
 go_enter Tryz.func101,Tryz.ntmps101
 have HH:Hid ((⟨#[112,97,99,107,97,103,101,32]⟩++X++⟨#[32]⟩++Y:ByteArray).data.toList=M.Zbs p):=by show _ = _;simp only[Zah,HX.out,HY.out];rfl
 have HHs:Hid ((⟨#[112,97,99,107,97,103,101,32]⟩++X++⟨#[32]⟩++Y:ByteArray).size<=300000):=by
  show _<=_
  simp only[ByteArray.size_append]
  have e1:(⟨#[112,97,99,107,97,103,101,32]⟩:ByteArray).size=8:=rfl
  have e2:(⟨#[32]⟩:ByteArray).size=1:=rfl
  omega
 go_wp2
 go_loopw [3,4,5] (fun t i _ wr=>∃ (S:ByteArray) (k:Nat),t=.string S/\i=.int .i64 k/\k<=p.needs.length/\S.size<=300000+k*600000000/\wr.cell? ⟨w.heap.size,2,none⟩=some (.slice an p.needs.length cn)/\wr.cell? ⟨w.heap.size,3,none⟩=some (.slice ab p.bars.length cb)/\wr.cell? ⟨w.heap.size,4,none⟩=some (.slice af p.files.length cf)/\Below w.heap.size w wr/\w.heap.size<wr.heap.size/\Hid (S.data.toList=M.Zbs p++M.Zbq (p.needs.take k))) (fun _ i _ _=>p.needs.length-(intOf i).toNat)
 case atStart=>exact⟨_,0,rfl,rfl,Nat.zero_le _,HHs.out,Zbk _ _ _ 2 _ rfl,Zbk _ _ _ 3 _ rfl,Zbk _ _ _ 4 _ rfl,(Below.refl _ w).alloc ler _,by simp,by show _ = _;rw[HH.out];simp[M.Zbq]⟩
 case round=>
  obtain⟨S,k,rfl,rfl,hk,hSs,q2,q3,q4,hB,hz,HS⟩:=hrel
  by_cases hlt:k<p.needs.length
  ·obtain⟨g,au,cu,rfl,hg,hc,hr⟩:=Za9.at hn.out k hlt
   have c1:wr.cell? ⟨g,k,none⟩=some (.slice au p.needs[k].length cu):=(hB.cell (p:=⟨g,k,none⟩) hg).trans hc
   have cP:=Zpd _ p.needs[k] ⟨#[32,124,32]⟩ wr 0 w.heap.size (hr.keep (fun g o _ h=>Zcb hB h)) (hp.needs _ (List.getElem_mem hlt)) (by decide)
   clear hc hr
   go_wp2_with fail
   refine cP.mono ?_
   rintro e w2 ⟨T,rfl,hT,hTs,n,rfl⟩
   have HG:=Z8p p.needs k hlt _ _ _ HS.out hT
   replace HG:Hid _:=HG
   clear hT cP
   by_cases hk0:k=0
   ·have hk0':((k:Int) == 0)=true:=by simp[hk0]
    have HK:=hid hk0
    clear hk0
    go_wp2
    go_roundw
    case rel=>
     refine⟨_,k+1,rfl,by go_num,by omega,?_,q2,q3,q4,below_drewN hB n,hz,?_⟩
     ·simp only[ByteArray.size_append]
      have e1:(⟨#[10,110,101,101,100,115,32]⟩:ByteArray).size=7:=rfl
      omega
     ·show _ = _
      rw[<-HG.out.1 HK.out]
      simp only[Zah]
    case measure=>simp[intOf];omega
   ·have hk0':((k:Int) == 0)=false:=by simp[hk0]
    have HK:Hid (0<k):=by show _ < _;omega
    clear hk0
    go_wp2
    go_roundw
    case rel=>
     refine⟨_,k+1,rfl,by go_num,by omega,?_,q2,q3,q4,below_drewN hB n,hz,?_⟩
     ·simp only[ByteArray.size_append]
      have e1:(⟨#[44,32]⟩:ByteArray).size=2:=rfl
      omega
     ·show _ = _
      rw[<-HG.out.2 HK.out]
      simp only[Zah]
    case measure=>simp[intOf];omega
  ·have HE:Hid (p.needs.take k=p.needs):=List.take_of_length_le (by omega)
   by_cases hb0:0<p.bars.length
   ·have hb0':(0:Int)<p.bars.length:=by omega
    have cP:=Zpd _ p.bars ⟨#[44,32]⟩ wr 0 w.heap.size (Zas.keep hb.out (fun g o _ h=>Zcb hB h)) hp.bars (by decide)
    go_wp2_with fail
    refine cP.mono ?_
    rintro e w2 ⟨T,rfl,hT,hTs,n,rfl⟩
    clear cP
    have HT:Hid ((S++⟨#[10,98,97,114,115,32]⟩++T:ByteArray).data.toList=M.Zbs p++M.Zbq p.needs++M.Zct p.bars):=by
     show _ = _
     simp only[Zah]
     rw[HS.out,hT,HE.out]
     unfold M.Zct
     rw[if_neg (by intro e;rw[e] at hb0;simp at hb0)]
     simp only[List.append_assoc]
    have HTs:Hid ((S++⟨#[10,98,97,114,115,32]⟩++T:ByteArray).size<=2000000000000):=by
     show _<=_
     simp only[ByteArray.size_append]
     have e1:(⟨#[10,98,97,114,115,32]⟩:ByteArray).size=6:=rfl
     omega
    clear hT
    go_wp2
    obtain⟨W0,hW0⟩:∃ W,W=wr:=⟨_,rfl⟩
    subst hW0
    go_loopw [3,7] (fun t i wr=>∃ (S:ByteArray) (k:Nat),t=.string S/\i=.int .i64 k/\k<=p.files.length/\S.size<=2000000000000+k*300000/\wr.cell? ⟨w.heap.size,4,none⟩=some (.slice af p.files.length cf)/\Below w.heap.size w wr/\Hid (S.data.toList=M.Zbs p++M.Zbq p.needs++M.Zct p.bars++(p.files.take k).flatMap M.Zcq)) (fun _ i _=>p.files.length-(intOf i).toNat)
    case atStart=>exact⟨_,0,rfl,rfl,Nat.zero_le _,HTs.out,q4,below_drewN hB _,by show _ = _;rw[HT.out];simp⟩
    case round=>
     obtain⟨S2,k2,rfl,rfl,hk2,hSs2,q4',hB',HS2⟩:=hrel
     by_cases hlt2:k2<p.files.length
     ·obtain⟨g2,rfl,hg2,hcap,hc2⟩:=Zas.cellAt hf.out (by omega)
      obtain⟨P,hP⟩:∃ X:ByteArray,X=⟨p.files[k2].path.toArray⟩:=⟨_,rfl⟩
      obtain⟨C,hC⟩:∃ X:ByteArray,X=⟨p.files[k2].content.toArray⟩:=⟨_,rfl⟩
      have hfs:=hp.files _ (List.getElem_mem hlt2)
      have hPs:P.size<=8000:=by rw[hP];exact hfs.1
      have hCs:C.size<=8000:=by rw[hC];exact hfs.2
      have cp:wr.cell? ⟨g2,k2*2,none⟩=some (.string P):=by rw[hP,hB'.cell (p:=⟨g2,k2*2,none⟩) hg2];exact hc2 _ _ (by rw[Nat.mul_comm];exact Zgp hlt2)
      have cc:wr.cell? ⟨g2,k2*2+1,none⟩=some (.string C):=by rw[hC,hB'.cell (p:=⟨g2,k2*2+1,none⟩) hg2];exact hc2 _ _ (by rw[Nat.mul_comm];exact Znu hlt2)
      have HG:=Z0g p.files k2 hlt2 _ _ HS2.out
      replace HG:Hid (S2.data.toList++[10,102,105,108,101,32]++P.data.toList++[61]++C.data.toList=M.Zbs p++M.Zbq p.needs++M.Zct p.bars++(p.files.take (k2+1)).flatMap M.Zcq):=by show _ = _;rw[<-HG,hP,hC]
      clear hP hC hc2 hfs
      go_wp2
      go_quiet (fail)
      go_wp2
      go_roundw
      case rel=>
       refine⟨_,k2+1,rfl,by go_num,by omega,?_,q4',below_drewN hB' _,?_⟩
       ·simp only[ByteArray.size_append]
        have e1:(⟨#[10,102,105,108,101,32]⟩:ByteArray).size=6:=rfl
        have e2:(⟨#[61]⟩:ByteArray).size=1:=rfl
        omega
       ·show _ = _
        rw[<-HG.out]
        simp only[Zah]
      case measure=>simp[intOf];omega
     ·have HE2:Hid (p.files.take k2=p.files):=List.take_of_length_le (by omega)
      go_wp2
      go_ret
      exact⟨S2,rfl,by rw[HS2.out,HE2.out];rfl,hB'⟩
   ·have hb0':¬ (0:Int)<p.bars.length:=by omega
    have HT:Hid (S.data.toList=M.Zbs p++M.Zbq p.needs++M.Zct p.bars):=by
     show _ = _
     rw[HS.out,HE.out]
     unfold M.Zct
     rw[if_pos (List.length_eq_zero_iff.mp (by omega)),List.append_nil]
    go_wp2
    obtain⟨W0,hW0⟩:∃ W,W=wr:=⟨_,rfl⟩
    subst hW0
    go_loopw [3,7] (fun t i wr=>∃ (S:ByteArray) (k:Nat),t=.string S/\i=.int .i64 k/\k<=p.files.length/\S.size<=2000000000000+k*300000/\wr.cell? ⟨w.heap.size,4,none⟩=some (.slice af p.files.length cf)/\Below w.heap.size w wr/\Hid (S.data.toList=M.Zbs p++M.Zbq p.needs++M.Zct p.bars++(p.files.take k).flatMap M.Zcq)) (fun _ i _=>p.files.length-(intOf i).toNat)
    case atStart=>exact⟨_,0,rfl,rfl,Nat.zero_le _,by omega,q4,hB,by show _ = _;rw[HT.out];simp⟩
    case round=>
     obtain⟨S2,k2,rfl,rfl,hk2,hSs2,q4',hB',HS2⟩:=hrel
     by_cases hlt2:k2<p.files.length
     ·obtain⟨g2,rfl,hg2,hcap,hc2⟩:=Zas.cellAt hf.out (by omega)
      obtain⟨P,hP⟩:∃ X:ByteArray,X=⟨p.files[k2].path.toArray⟩:=⟨_,rfl⟩
      obtain⟨C,hC⟩:∃ X:ByteArray,X=⟨p.files[k2].content.toArray⟩:=⟨_,rfl⟩
      have hfs:=hp.files _ (List.getElem_mem hlt2)
      have hPs:P.size<=8000:=by rw[hP];exact hfs.1
      have hCs:C.size<=8000:=by rw[hC];exact hfs.2
      have cp:wr.cell? ⟨g2,k2*2,none⟩=some (.string P):=by rw[hP,hB'.cell (p:=⟨g2,k2*2,none⟩) hg2];exact hc2 _ _ (by rw[Nat.mul_comm];exact Zgp hlt2)
      have cc:wr.cell? ⟨g2,k2*2+1,none⟩=some (.string C):=by rw[hC,hB'.cell (p:=⟨g2,k2*2+1,none⟩) hg2];exact hc2 _ _ (by rw[Nat.mul_comm];exact Znu hlt2)
      have HG:=Z0g p.files k2 hlt2 _ _ HS2.out
      replace HG:Hid (S2.data.toList++[10,102,105,108,101,32]++P.data.toList++[61]++C.data.toList=M.Zbs p++M.Zbq p.needs++M.Zct p.bars++(p.files.take (k2+1)).flatMap M.Zcq):=by show _ = _;rw[<-HG,hP,hC]
      clear hP hC hc2 hfs
      go_wp2
      go_quiet (fail)
      go_wp2
      go_roundw
      case rel=>
       refine⟨_,k2+1,rfl,by go_num,by omega,?_,q4',below_drewN hB' _,?_⟩
       ·simp only[ByteArray.size_append]
        have e1:(⟨#[10,102,105,108,101,32]⟩:ByteArray).size=6:=rfl
        have e2:(⟨#[61]⟩:ByteArray).size=1:=rfl
        omega
       ·show _ = _
        rw[<-HG.out]
        simp only[Zah]
      case measure=>simp[intOf];omega
     ·have HE2:Hid (p.files.take k2=p.files):=List.take_of_length_le (by omega)
      go_wp2
      go_ret
      exact⟨S2,rfl,by rw[HS2.out,HE2.out];rfl,hB'⟩
theorem Zen{P:Program}{w:World}{ops:Array Oper}{o:Oper}{a:Act}{K:Act->World->Prop}{Q:Exit->Act->World->Prop}{E:Prop}(hgd:o.guard=none)(s x:Operand)(t:TypeId)
 (hop:o.op=Op.call { callee:=Callee.builtin Builtin.append,args:=#[s,x],argTypes:=#[t,t] }) (v u v':Value) (w':World) (hs:a.eval s=v) (hx:a.eval x=u) (hrun:(Builtin.append_ #[t,t] o.type #[v,u]).run P w=.ok v' w')
 (hK:K (a.put o.dst v') w'):if Region.wanted o (yielded ops a.tmps)=true then Oper.wp P o a w K Q else E:=by
 rw[if_pos (by simp[Region.wanted,hgd])]
 unfold Oper.wp
 simp[execOp,hop,resolve,invoke,builtin,hs,hx,hrun,Result.andThen]
 exact hK
namespace M
def Zf0:List Int->List Int->Int
 | [],[]=>0
 | [],y :: ys=>if Zdu 0 y=0 then Zf0 [] ys else Zdu 0 y
 | x :: xs,[]=>if Zdu x 0=0 then Zf0 xs [] else Zdu x 0
 | x :: xs,y :: ys=>if Zdu x y=0 then Zf0 xs ys else Zdu x y
theorem Zln(x:Int):Zdu x x=0:=by unfold Zdu;simp
theorem Zdv{x y:Int}:Zdu x y=0↔x=y:=by unfold Zdu;split <;> (try split) <;> omega
theorem Zlb(x y:Int):Zdu x y = - Zdu y x:=by unfold Zdu;split <;> split <;> (try split) <;> omega
theorem Ztq(x y:Int) : -1<=Zdu x y/\Zdu x y<=1:=by unfold Zdu;split <;> (try split) <;> omega
theorem Zgb{x y a b:Int}(h:x<y↔a<b)(k:y<x↔b<a):Zdu x y=Zdu a b:=by unfold Zdu;simp only[h,k]
theorem Zlr(x y:List Int):Zf0 x y=if Zdu (x.headD 0) (y.headD 0)=0 then Zf0 x.tail y.tail else Zdu (x.headD 0) (y.headD 0):=by
 cases x with
 | nil=>cases y with
  | nil=>simp[Zf0,Zln]
  | cons b y=>simp[Zf0]
 | cons a x=>cases y with
  | nil=>simp[Zf0]
  | cons b y=>simp[Zf0]
theorem Zwr:∀ (x y:List Int),-1<=Zf0 x y/\Zf0 x y<=1
 | [],[]=>by simp[Zf0]
 | [],y :: ys=>by unfold Zf0;have:=Zwr [] ys;have:=Ztq 0 y;split <;> omega
 | x :: xs,[]=>by unfold Zf0;have:=Zwr xs [];have:=Ztq x 0;split <;> omega
 | x :: xs,y :: ys=>by unfold Zf0;have:=Zwr xs ys;have:=Ztq x y;split <;> omega
theorem Zlw:∀ (x y:List Int),Zf0 x y = - Zf0 y x
 | [],[]=>by simp[Zf0]
 | [],y :: ys=>by
  unfold Zf0;have h:=Zlw [] ys;have k:=Zlb 0 y
  by_cases e:Zdu 0 y=0
  ·rw[if_pos e,if_pos (by omega),h]
  ·rw[if_neg e,if_neg (by omega),k]
 | x :: xs,[]=>by
  unfold Zf0;have h:=Zlw xs [];have k:=Zlb x 0
  by_cases e:Zdu x 0=0
  ·rw[if_pos e,if_pos (by omega),h]
  ·rw[if_neg e,if_neg (by omega),k]
 | x :: xs,y :: ys=>by
  unfold Zf0;have h:=Zlw xs ys;have k:=Zlb x y
  by_cases e:Zdu x y=0
  ·rw[if_pos e,if_pos (by omega),h]
  ·rw[if_neg e,if_neg (by omega),k]
theorem Z6j(x:List Int):Zf0 x x=0:=by
 induction x with
 | nil=>simp[Zf0]
 | cons a x ih=>unfold Zf0;rw[if_pos (Zln a),ih]
theorem Zv4(x:List Int)(j:Nat):x.tail.getD j 0=x.getD (j+1) 0:=by cases x <;> simp
theorem Zw7:∀ (k:Nat) (x y:List Int),(∀ j,j<k->x.getD j 0=y.getD j 0)->Zf0 x y=Zf0 (x.drop k) (y.drop k)
 | 0,x,y,_=>by simp
 | k+1,x,y,h=>by
  rw[Zlr]
  have h0:=h 0 (by omega)
  have e:Zdu (x.headD 0) (y.headD 0)=0:=by
   rw[Zdv]
   cases x <;> cases y <;> simp_all
  rw[if_pos e,Zw7 k x.tail y.tail (fun j hj=>by rw[Zv4,Zv4];exact h (j+1) (by omega))]
  simp
theorem Zq2(x:List Int)(k:Nat):(x.drop k).headD 0=x.getD k 0:=by
 induction k generalizing x with
 | zero=>cases x <;> simp
 | succ k ih=>cases x with
  | nil=>simp
  | cons a x=>rw[List.drop_succ_cons,ih x];rfl
theorem Z4q{k:Nat}{x y:List Int}(h:∀ j,j<k->x.getD j 0=y.getD j 0)(hk:Zdu (x.getD k 0) (y.getD k 0)≠0):
 Zf0 x y=Zdu (x.getD k 0) (y.getD k 0):=by
 rw[Zw7 k x y h,Zlr,Zq2,Zq2,if_neg hk]
theorem Z4k{k:Nat}{x y:List Int}(h:∀ j,j<k->x.getD j 0=y.getD j 0)(hx:x.length<=k)(hy:y.length<=k):
 Zf0 x y=0:=by
 rw[Zw7 k x y h,List.drop_eq_nil_of_le hx,List.drop_eq_nil_of_le hy];simp[Zf0]
theorem Zqs:∀ (a b:List Int) (x y:List Int),(∀ v∈a,v≠0)->(∀ v∈b,v≠0)->
 Zf0 (a++0 :: x) (b++0 :: y)=if Zf0 a b=0 then Zf0 x y else Zf0 a b
 | [],[],x,y,_,_=>by simp[Zf0,Zln]
 | [],b :: bs,x,y,_,hb=>by
  have h:Zdu 0 b≠0:=fun e=>hb b (by simp) (Zdv.mp e).symm
  simp[Zf0,h]
 | a :: as1,[],x,y,ha,_=>by
  have h:Zdu a 0≠0:=fun e=>ha a (by simp) (Zdv.mp e)
  simp[Zf0,h]
 | a :: as1,b :: bs,x,y,ha,hb=>by
  have ih:=Zqs as1 bs x y (fun v hv=>ha v (by simp[hv])) (fun v hv=>hb v (by simp[hv]))
  by_cases e:Zdu a b=0
  ·simp[Zf0,e,ih]
  ·simp[Zf0,e]
def num:List UInt8->Nat
 | []=>0
 | b :: l=>(b.toNat-48)*10 ^ l.length+num l
def Zd3(l:List UInt8):Prop:=∀ b∈l,48<=b.toNat/\b.toNat<=57
theorem Zzk:∀ {l:List UInt8},Zd3 l->num l<10 ^ l.length
 | [],_=>by simp[num]
 | b :: l,h=>by
  have ih:=Zzk (l:=l) (fun c hc=>h c (by simp[hc]))
  have hb:=h b (by simp)
  have:=Nat.mul_le_mul_right (10 ^ l.length) (show b.toNat-48<=9 by omega)
  simp only[num,List.length_cons,Nat.pow_succ]
  omega
theorem Zl4(l:List UInt8):num (48 :: l)=num l:=by simp[num]
theorem Zph:∀ (l:List UInt8),num (strip l)=num l
 | []=>rfl
 | b :: l=>by
  unfold strip
  rw[List.dropWhile_cons]
  by_cases h:b=48
  ·subst h;have:=Zph l;unfold strip at this;simpa [Zl4] using this
  ·simp[h]
theorem Zmj:∀ (l:List UInt8),∀ b r,strip l=b :: r->b≠48
 | [],b,r,h=>by simp[strip] at h
 | c :: l,b,r,h=>by
  unfold strip at h
  rw[List.dropWhile_cons] at h
  by_cases e:c=48
  ·subst e;exact Zmj l b r (by simpa [strip] using h)
  ·simp[e] at h;exact h.1 ▸ e
theorem Zmx{l:List UInt8}(h:Zd3 l):Zd3 (strip l):=fun b hb=>h b ((List.dropWhile_sublist _).subset hb)
theorem Yc2{b:UInt8}{l:List UInt8}(hb:49<=b.toNat):10 ^ l.length<=num (b :: l):=by
 have:=Nat.mul_le_mul_right (10 ^ l.length) (show 1<=b.toNat-48 by omega)
 simp only[num];omega
theorem Zfu:∀ {a b:List UInt8},Zd3 a->Zd3 b->a.length=b.length->Lib.compareBytes a b=Zdu (num a) (num b)
 | [],[],_,_,_=>by simp[Lib.compareBytes,num,Zdu]
 | [],_ :: _,_,_,h=>by simp at h
 | _ :: _,[],_,_,h=>by simp at h
 | x :: a,y :: b,ha,hb,hl=>by
  have hl':a.length=b.length:=by simpa using hl
  have da:Zd3 a:=fun c hc=>ha c (by simp[hc])
  have db:Zd3 b:=fun c hc=>hb c (by simp[hc])
  have ih:=Zfu da db hl'
  have hx:=ha x (by simp);have hy:=hb y (by simp)
  have la:=Zzk da;have lb:=Zzk db
  unfold Lib.compareBytes
  simp only[num,hl'] at *
  generalize 10 ^ b.length=t at *
  by_cases h1:x<y
  ·have h1':x.toNat<y.toNat:=UInt8.lt_iff_toNat_lt.mp h1
   have:=Nat.mul_le_mul_right t (show x.toNat-48+1<=y.toNat-48 by omega)
   rw[Nat.add_mul] at this
   rw[if_pos h1]
   unfold Zdu
   rw[if_pos (by omega)]
  ·rw[if_neg h1]
   have h1':¬ x.toNat<y.toNat:=fun h=>h1 (UInt8.lt_iff_toNat_lt.mpr h)
   by_cases h2:y<x
   ·have h2':y.toNat<x.toNat:=UInt8.lt_iff_toNat_lt.mp h2
    have:=Nat.mul_le_mul_right t (show y.toNat-48+1<=x.toNat-48 by omega)
    rw[Nat.add_mul] at this
    rw[if_pos h2]
    unfold Zdu
    rw[if_neg (by omega),if_pos (by omega)]
   ·have h2':¬ y.toNat<x.toNat:=fun h=>h2 (UInt8.lt_iff_toNat_lt.mpr h)
    rw[if_neg h2,ih,show x.toNat=y.toNat by omega]
    exact Zgb (by omega) (by omega)
def Yaa(a b:List UInt8):Int:=
 if Zdu (strip a).length (strip b).length=0 then Lib.compareBytes (strip a) (strip b) else Zdu (strip a).length (strip b).length
theorem Z0e{a b:List UInt8}(da:Zd3 a)(db:Zd3 b)(hl:a.length<b.length)(hb:∀ x r,b=x :: r->x≠48):num a<num b:=by
 cases b with
 | nil=>simp at hl
 | cons x r=>
  have hx:=hb x r rfl
  have dx:=db x (by simp)
  have:x.toNat≠48:=fun e=>hx (UInt8.toNat_inj.mp (by simpa using e))
  have h1:=Zzk da
  have h2:=Yc2 (b:=x) (l:=r) (by omega)
  have h3:10 ^ a.length<=10 ^ r.length:=Nat.pow_le_pow_right (by omega) (by simp at hl;omega)
  omega
theorem Zym{a b:List UInt8}(da:Zd3 a)(db:Zd3 b):Yaa a b=Zdu (num a) (num b):=by
 have sa:=Zmx da;have sb:=Zmx db
 rw[<-Zph a,<-Zph b]
 unfold Yaa
 by_cases h:Zdu (strip a).length (strip b).length=0
 ·rw[if_pos h]
  exact Zfu sa sb (by have:=Zdv.mp h;omega)
 ·rw[if_neg h]
  have hn:(strip a).length≠(strip b).length:=fun e=>h (Zdv.mpr (by omega))
  by_cases hl:(strip a).length<(strip b).length
  ·have:=Z0e sa sb hl (fun x r e=>Zmj b x r e)
   exact Zgb (by omega) (by omega)
  ·have:=Z0e sb sa (by omega) (fun x r e=>Zmj a x r e)
   exact Zgb (by omega) (by omega)
def ranks(l:List UInt8):List Int:=l.map (fun b=>rk b.toNat)
def Zf8(l:List UInt8)(k:Nat):Int:=(ranks l).getD k 0
theorem rk_ne(b:UInt8):rk b.toNat≠0:=by
 unfold rk isLt;have:=b.toNat_lt;split
 ·omega
 ·split
  ·rename_i h;simp at h;omega
  ·omega
theorem Zza(l:List UInt8):∀ v∈ranks l,v≠0:=by
 intro v hv;unfold ranks at hv;rw[List.mem_map] at hv;obtain⟨b,_,rfl⟩:=hv;exact rk_ne b
theorem Zy6{l:List UInt8}(h:l≠[]):0<lead Zih l\/0<lead isD (l.drop (lead Zih l)):=by
 cases l with
 | nil=>exact absurd rfl h
 | cons b l=>
  rw[Zhd]
  by_cases hb:Zih b.toNat=true
  ·left;rw[if_pos hb];omega
  ·right;rw[if_neg hb,List.drop_zero,Zhd,if_pos (by unfold Zih at hb;simpa using hb)];omega
def Z65:Nat->List UInt8->List Int
 | 0,_=>[]
 | n+1,l=>if l=[] then [] else
  ranks (l.take (lead Zih l))++0 :: (num ((l.drop (lead Zih l)).take (lead isD (l.drop (lead Zih l)))):Int) ::
   Z65 n ((l.drop (lead Zih l)).drop (lead isD (l.drop (lead Zih l))))
def key(l:List UInt8):List Int:=Z65 l.length l
theorem Z5f{l:List UInt8}(h:l≠[]):((l.drop (lead Zih l)).drop (lead isD (l.drop (lead Zih l)))).length<l.length:=by
 have h1:=Zy6 h
 have h2:=Zp0 Zih l
 have h3:=Zp0 isD (l.drop (lead Zih l))
 have:l.length≠0:=fun e=>h (List.length_eq_zero_iff.mp e)
 simp only[List.length_drop] at *
 omega
theorem Ztn:∀ (n m:Nat) (l:List UInt8),l.length<=n->l.length<=m->Z65 n l=Z65 m l
 | 0,m,l,hn,_=>by
  have:l=[]:=List.length_eq_zero_iff.mp (by omega)
  subst this
  cases m <;> simp[Z65]
 | n+1,0,l,_,hm=>by
  have:l=[]:=List.length_eq_zero_iff.mp (by omega)
  subst this
  simp[Z65]
 | n+1,m+1,l,hn,hm=>by
  by_cases h:l=[]
  ·simp[Z65,h]
  ·have hr:=Z5f h
   simp only[Z65,if_neg h]
   rw[Ztn n m _ (by omega) (by omega)]
theorem Zpz(y:List Int):∀ x,Zf0 (x++[0]) y=Zf0 x y
 | []=>by cases y with
  | nil=>simp[Zf0,Zln]
  | cons b y=>simp[Zf0]
 | a :: x=>by
  rw[Zlr,Zlr (a :: x)]
  simp only[List.cons_append,List.headD_cons,List.tail_cons]
  rw[Zpz y.tail x]
  rfl
def row(l:List UInt8):List Int:=
 ranks (l.take (lead Zih l))++0 :: (num ((l.drop (lead Zih l)).take (lead isD (l.drop (lead Zih l)))):Int) ::
  key ((l.drop (lead Zih l)).drop (lead isD (l.drop (lead Zih l))))
theorem Ybr{l:List UInt8}(h:l≠[]):key l=row l:=by
 have hr:=Z5f h
 have hl:l.length≠0:=fun e=>h (List.length_eq_zero_iff.mp e)
 have e:key l=Z65 (l.length-1+1) l:=by unfold key;exact Ztn _ _ _ (by omega) (by omega)
 rw[e]
 simp only[Z65,if_neg h]
 unfold row key
 rw[Ztn (l.length-1) _ _ (by omega) ler]
theorem Ybi:row []=[0,0]:=by
 unfold row;simp[Z8i,ranks,num,key,Z65]
theorem Z5z:key []=[]:=rfl
theorem Zu0(l:List UInt8)(y:List Int):Zf0 (key l) y=Zf0 (row l) y:=by
 by_cases h:l=[]
 ·subst h
  rw[Ybi,Z5z,show ([0,0]:List Int)=([]++[0])++[0] from rfl,Zpz,Zpz]
 ·rw[Ybr h]
theorem Z6p(x:List Int)(l:List UInt8):Zf0 x (key l)=Zf0 x (row l):=by
 rw[Zlw,Zu0,<-Zlw]
def Zsu(a b:List UInt8):Int:=Zf0 (key a) (key b)
def Zxj(a b:List UInt8):Int:=Zf0 (ranks a) (ranks b)
theorem Zq6{a b:List UInt8}{k:Nat}(h:∀ j,j<k->Zf8 a j=Zf8 b j)(hk:¬ Zdu (Zf8 a k) (Zf8 b k)=0):Zxj a b=Zdu (Zf8 a k) (Zf8 b k):=
 Z4q h hk
theorem Zq4{a b:List UInt8}{k:Nat}(h:∀ j,j<k->Zf8 a j=Zf8 b j)(ha:a.length<=k)(hb:b.length<=k):Zxj a b=0:=
 Z4k h (by simpa [ranks] using ha) (by simpa [ranks] using hb)
theorem Zvc{l:List UInt8}(h:0<l.length)(h0:l[0].toNat=48):strip (l.drop 1)=strip l:=by
 cases l with
 | nil=>simp at h
 | cons b l=>
  have e:b=48:=UInt8.toNat_inj.mp (by simpa using h0)
  subst e;simp[strip]
theorem Z3c{l:List UInt8}(h:0<l.length)(h0:¬ l[0].toNat=48):strip l=l:=by
 cases l with
 | nil=>simp at h
 | cons b l=>
  have e:b≠48:=fun e=>h0 (by simp[e])
  simp[strip,e]
theorem strip_nil{l:List UInt8}(h:¬ 0<l.length):strip l=l:=by
 cases l with
 | nil=>rfl
 | cons b l=>simp at h
theorem Zhy:∀ (l:List UInt8),Zd3 (l.take (lead isD l))
 | []=>by intro b hb;simp at hb
 | c :: l=>by
  rw[Zhd]
  by_cases h:isD c.toNat=true
  ·rw[if_pos h,List.take_succ_cons]
   intro b hb
   rcases List.mem_cons.mp hb with rfl|hb
   ·unfold isD at h;simp at h;omega
   ·exact Zhy l b hb
  ·rw[if_neg h];intro b hb;simp at hb
theorem Zjf(a b:List UInt8)(i j:Nat)(hi:i=lead Zih a)(hj:j=lead Zih b):
 Zsu a b=if Zxj (a.take i) (b.take j)=0 then
  (if Yaa ((a.drop i).take (lead isD (a.drop i))) ((b.drop j).take (lead isD (b.drop j)))=0 then
    Zsu ((a.drop i).drop (lead isD (a.drop i))) ((b.drop j).drop (lead isD (b.drop j)))
   else Yaa ((a.drop i).take (lead isD (a.drop i))) ((b.drop j).take (lead isD (b.drop j))))
  else Zxj (a.take i) (b.take j):=by
 subst hi hj
 rw[Zym (Zhy _) (Zhy _)]
 unfold Zsu Zxj
 rw[Zu0,Z6p]
 unfold row
 rw[Zqs _ _ _ _ (Zza _) (Zza _)]
 simp only[Zf0]
theorem Zyv:∀ (a b:List UInt8),Op.bytesLess a b=decide (Lib.compareBytes a b<0)
 | [],[]=>by simp[Op.bytesLess,Lib.compareBytes]
 | [],_ :: _=>by simp[Op.bytesLess,Lib.compareBytes]
 | _ :: _,[]=>by simp[Op.bytesLess,Lib.compareBytes]
 | x :: a,y :: b=>by
  unfold Op.bytesLess Lib.compareBytes
  rw[Zyv a b]
  by_cases h:x<y
  ·simp[h]
  ·by_cases h2:y<x
   ·have hne:x≠y:=fun e=>by subst e;exact h h2
    simp[h,h2,hne]
   ·have he:x=y:=UInt8.toNat_inj.mp (by rw[UInt8.lt_iff_toNat_lt] at h h2;omega)
    simp[he]
theorem same_iff:∀ (a b:List UInt8),(a == b)=decide (Lib.compareBytes a b=0)
 | [],[]=>by simp[Lib.compareBytes]
 | [],_ :: _=>by simp[Lib.compareBytes]
 | _ :: _,[]=>by simp[Lib.compareBytes]
 | x :: a,y :: b=>by
  unfold Lib.compareBytes
  have ih:=same_iff a b
  by_cases h:x<y
  ·have hne:x≠y:=fun e=>by subst e;rw[UInt8.lt_iff_toNat_lt] at h;omega
   simp[h,hne]
  ·by_cases h2:y<x
   ·have hne:x≠y:=fun e=>by subst e;exact h h2
    simp[h,h2,hne]
   ·have he:x=y:=UInt8.toNat_inj.mp (by rw[UInt8.lt_iff_toNat_lt] at h h2;omega)
    subst he
    simp only[h,if_false]
    rw[<-ih]
    simp
theorem Z45(b:UInt8) : -1<=rkR b.toNat/\rkR b.toNat<=1255/\rkR b.toNat≠0:=by
 unfold rkR isLt;have:=b.toNat_lt;split
 ·omega
 ·split
  ·rename_i h;simp at h;omega
  ·omega
theorem Yac(a b:UInt8):Zdu (rkR a.toNat) (rkR b.toNat)=Zdu (rk a.toNat) (rk b.toNat):=by
 have ha:=a.toNat_lt;have hb:=b.toNat_lt
 unfold rkR rk isLt
 by_cases h1:(a.toNat:Int)=126 <;> by_cases h2:(b.toNat:Int)=126 <;>
  by_cases h3:((97<=(a.toNat:Int)/\(a.toNat:Int)<=122)\/(65<=(a.toNat:Int)/\(a.toNat:Int)<=90)) <;>
  by_cases h4:((97<=(b.toNat:Int)/\(b.toNat:Int)<=122)\/(65<=(b.toNat:Int)/\(b.toNat:Int)<=90)) <;>
  simp only[h1,h2,h3,h4,decide_true,decide_false,if_true,if_false,Bool.false_eq_true] <;> exact Zgb (by omega) (by omega)
theorem Z5a(a:UInt8):Zdu (rkR a.toNat) 0=Zdu (rk a.toNat) 0:=by
 have ha:=a.toNat_lt
 unfold rkR rk isLt
 by_cases h1:(a.toNat:Int)=126 <;>
  by_cases h3:((97<=(a.toNat:Int)/\(a.toNat:Int)<=122)\/(65<=(a.toNat:Int)/\(a.toNat:Int)<=90)) <;>
  simp only[h1,h3,decide_true,decide_false,if_true,if_false,Bool.false_eq_true] <;> exact Zgb (by omega) (by omega)
theorem Zzw(x y:Int):Zdu (x-y) 0=Zdu x y:=Zgb (by omega) (by omega)
theorem Ya7{l:List UInt8}{n k:Nat}(h:k<n)(hl:k<l.length):Zf8 (l.take n) k=rk (l[k]).toNat:=by
 unfold Zf8 ranks
 rw[List.getD_eq_getElem?_getD,List.getElem?_map,List.getElem?_take,if_pos h,List.getElem?_eq_getElem hl]
 rfl
theorem Z0i{l:List UInt8}{n k:Nat}(h:n<=k):Zf8 (l.take n) k=0:=by
 unfold Zf8 ranks
 rw[List.getD_eq_getElem?_getD,List.getElem?_eq_none (by simp;omega)]
 rfl
theorem Zk9{l:List UInt8}(h:Zd3 l):Zd3 (48 :: l):=fun b hb=>by
 rcases List.mem_cons.mp hb with rfl|hb
 ·exact⟨by decide,by decide⟩
 ·exact h b hb
theorem Z3i(a:List UInt8):Zsu a a=0:=Z6j _
end M
theorem Zdf(c:Int)(w:World):
 Calls Tryz.prog 59 #[.int .u8 c] w fun e w'=>e=.returned (.bool (M.isD c))/\w'=w:=by
 by_cases h1:48<=c
 ·by_cases h2:c<=57
  ·go_enter Tryz.func59,Tryz.ntmps59
   go_wp2
   go_ret
   exact⟨Zad (M.Yas h1 h2).symm,rfl⟩
  ·go_enter Tryz.func59,Tryz.ntmps59
   go_wp2
   go_ret
   exact⟨Zad (M.Z3o h2).symm,rfl⟩
 ·go_enter Tryz.func59,Tryz.ntmps59
  go_wp2
  go_ret
  exact⟨Zad (M.Z4u h1).symm,rfl⟩
theorem Zc0(c:Int)(w:World):
 Calls Tryz.prog 201 #[.int .u8 c] w fun e w'=>e=.returned (.bool (M.Znb c))/\w'=w:=by
 by_cases h1:97<=c
 ·by_cases h2:c<=122
  ·go_enter Tryz.func201,Tryz.ntmps201
   go_wp2
   go_ret
   exact⟨Zad (by unfold M.Znb;simp;omega),rfl⟩
  ·go_enter Tryz.func201,Tryz.ntmps201
   go_wp2
   go_ret
   exact⟨Zad (by unfold M.Znb;simp;omega),rfl⟩
 ·go_enter Tryz.func201,Tryz.ntmps201
  go_wp2
  go_ret
  exact⟨Zad (by unfold M.Znb;simp;omega),rfl⟩
theorem Zi8(c:Int)(w:World):
 Calls Tryz.prog 149 #[.int .u8 c] w fun e w'=>e=.returned (.bool (M.isLt c))/\w'=w:=by
 by_cases h0:M.Znb c=true
 ·go_enter Tryz.func149,Tryz.ntmps149
  go_wp2_with (go_at_call 201;refine(Zc0 _ _).mono ?_;rintro e w' ⟨rfl,rfl⟩)
  go_ret
  exact⟨Zad (by unfold M.Znb at h0;unfold M.isLt;simp at h0 ⊢;omega),rfl⟩
 ·have h0':M.Znb c=false:=by simpa using h0
  have hn:¬ (97<=c/\c<=122):=by unfold M.Znb at h0;simpa using h0
  have HN:=hid hn
  clear hn h0
  by_cases h1:65<=c
  ·by_cases h2:c<=90
   ·go_enter Tryz.func149,Tryz.ntmps149
    go_wp2_with (go_at_call 201;refine(Zc0 _ _).mono ?_;rintro e w' ⟨rfl,rfl⟩)
    go_ret
    exact⟨Zad (by have:=HN.out;unfold M.isLt;simp;omega),rfl⟩
   ·go_enter Tryz.func149,Tryz.ntmps149
    go_wp2_with (go_at_call 201;refine(Zc0 _ _).mono ?_;rintro e w' ⟨rfl,rfl⟩)
    go_ret
    exact⟨Zad (by have:=HN.out;unfold M.isLt;rw[decide_eq_decide];omega),rfl⟩
  ·go_enter Tryz.func149,Tryz.ntmps149
   go_wp2_with (go_at_call 201;refine(Zc0 _ _).mono ?_;rintro e w' ⟨rfl,rfl⟩)
   go_ret
   exact⟨Zad (by have:=HN.out;unfold M.isLt;exact(decide_eq_false (by omega)).symm),rfl⟩
theorem Ztl(f:FuncId)(p:Int->Bool)(he:∀ args w,(callFunc f args).run Tryz.prog w=.ok (.enter f args) w)
 (hk:∀ c w,Calls Tryz.prog f #[.int .u8 c] w fun e w'=>e=.returned (.bool (p c))/\w'=w) (s:ByteArray) (w:World) (hs:s.size<=maxLen):
 Calls Tryz.prog 56 #[.string s,.func (.func f) #[] #[]] w fun e w'=>e=.returned (.int .i64 (M.lead p s.data.toList))/\w'=w:=by
 unfold maxLen at hs
 go_enter Tryz.func56,Tryz.ntmps56
 go_wp2
 go_loop [5] (fun i=>∃ k:Nat,k<=s.size/\i=.int .i64 k/\∀ j (h:j<s.data.toList.length),j<k->p (s.data.toList[j]).toNat=true) (fun i=>s.size-(intOf i).toNat)
 case atStart=>exact⟨0,Nat.zero_le _,rfl,fun j _ h=>by omega⟩
 case round=>
  obtain⟨k,hk1,rfl,ha⟩:=hrel
  have HA:=hid ha
  clear ha
  by_cases hlt:k<s.size
  ·by_cases hp:p s[k].toNat=true
   ·go_wp2_with (go_at_fn f;refine(hk _ _).mono ?_;rintro e w' ⟨rfl,rfl⟩)
    go_round
    case rel=>
     refine⟨k+1,by omega,by go_num,fun j hj hjk=>?_⟩
     by_cases hjk':j<k
     ·exact HA.out j hj hjk'
     ·obtain rfl:j=k:=by omega
      exact hp
    case measure=>simp[intOf];omega
   ·have hp':p s[k].toNat=false:=by simpa using hp
    have HP:Hid (p s[k].toNat=false):=hp'
    clear hp
    go_wp2_with (go_at_fn f;refine(hk _ _).mono ?_;rintro e w' ⟨rfl,rfl⟩)
    go_ret
    refine⟨Za7 ?_,rfl⟩
    rw[M.Zfy HA.out (by simpa using hk1) (fun h=>HP.out)]
  ·go_wp2
   go_ret
   refine⟨Za7 ?_,rfl⟩
   rw[M.Zfy HA.out (by simpa using hk1) (fun h=>by simp at h;omega)]
end Go.Proofs.YtgnfknjopafngabGreatDoor
