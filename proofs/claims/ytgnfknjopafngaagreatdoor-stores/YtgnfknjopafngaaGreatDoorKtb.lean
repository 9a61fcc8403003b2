import Derived.RegionTactic
import Derived.BigRegion
import Derived.Test.YtgnfknjopafngaaGreatDoorKta
set_option maxRecDepth 100000
set_option maxHeartbeats 2000000
namespace Go.Proofs.YtgnfknjopafngaaGreatDoor
open Go.RowKit
theorem Z5q{w:World}{B e n:Nat}{v:Value}{xs:List Value}(h:w.ownsRow B e 1 v n xs)(hn:0<n):
 ∃ g cap,v=.slice (some ⟨g,0,none⟩) n cap/\B<=g/\g<w.heap.size/\n<=cap/\∀ j (hj:j<xs.length),w.cell? ⟨g,j,none⟩=some xs[j]:=by
 obtain⟨hl,⟨_,hz⟩|⟨g,cap,cur,rfl,hB,hb,hc,_,hs,ht⟩⟩:=h
 ·omega
 ·refine⟨g,cap,rfl,hB,?_,hc,fun j hj=>?_⟩
  ·have:=Array.getElem?_eq_some_iff.mp hb;exact this.1
  ·subst ht
   simp only[List.length_take,Array.length_toList] at hj
   simp only[World.cell?,hb]
   rw[Array.getElem?_eq_getElem (by omega)]
   simp
theorem Zto(s sep:ByteArray)(w:World)(hs:0<sep.size)(hl:s.size<=1000000)(hl2:sep.size<=1000)(ps:List ByteArray)(hps:Zeh s sep=ps.map (fun p=>p.data.toList)):
 Calls Tryz.prog 36 #[.string s,.string sep] w fun e w'=>∃ g cap,e=.returned (.slice (some ⟨g,0,none⟩) ps.length cap)/\w.heap.size<=g/\g<w'.heap.size/\ps.length<=cap/\
  (∀ j (hj:j<ps.length),w'.cell? ⟨g,j,none⟩=some (.string ps[j]))/\Below w.heap.size w w':=by
 refine(Yag s sep w hs hl hl2).mono fun e w' ⟨v,he,ho,hb⟩=>?_
 have h0:=(M.Zbx s.data.toList sep.data.toList).1
 obtain⟨g,cap,rfl,h1,h2,h3,h4⟩:=Z5q ho h0
 have hn:(Zeh s sep).length=ps.length:=by rw[hps];simp
 rw[hn] at he h3
 refine⟨g,cap,he,h1,h2,h3,fun j hj=>?_,hb⟩
 rw[h4 j (by simp[hn];exact hj)]
 simp[hps,Zbe]
theorem Zdm(l:List (List UInt8)):∃ ps:List ByteArray,l=ps.map (fun p=>p.data.toList):=
 ⟨l.map (fun x=>⟨x.toArray⟩),by
  induction l with
  | nil=>rfl
  | cons a l ih=>simp only[List.map_cons];rw[<-ih]⟩
theorem Zb7{s sep:ByteArray}{ps:List ByteArray}(hps:Zeh s sep=ps.map (fun p=>p.data.toList))(p:ByteArray)(hp:p∈ps):p.size<=s.size:=by
 have:=M.Zjp s.data.toList sep.data.toList p.data.toList (by show _∈Zeh s sep;rw[hps];exact List.mem_map.mpr ⟨p,hp,rfl⟩)
 simpa using this
def Zb3(s:ByteArray):Option M.Ch:=M.Zc4 s.data.toList
def chB(x:Option M.Ch)(a b c:List UInt8):Prop:=∀ y,x=some y->y.name=a/\y.sign=b/\y.ver=c
theorem Zhr(a b c:List UInt8):chB none a b c:=fun y h=>by cases h
theorem Z0h(a b c:List UInt8):chB (some ⟨a,b,c⟩) a b c:=fun y h=>by cases h;exact⟨rfl,rfl,rfl⟩
theorem Z1d{α:Type}(b:Bool)(x:α):(if b=true then some x else none).isSome=b:=by cases b <;> rfl
theorem Ztg(s:ByteArray):Value.string s=Zbe s.data.toList:=rfl
theorem Z7s(s P:ByteArray)(h:Zeh s ⟨#[32]⟩=[P.data.toList]):Zb3 s=if Ze5 P=true then some ⟨s.data.toList,[],[]⟩ else none:=by
 unfold Zb3 M.Zc4
 rw[show M.Zcn s.data.toList [32]=Zeh s ⟨#[32]⟩ from rfl,h]
 rfl
theorem Z77(s P0 P1 P2:ByteArray)(h:Zeh s ⟨#[32]⟩=[P0.data.toList,P1.data.toList,P2.data.toList]):
 Zb3 s=if Ze5 P0=true/\0<P2.size/\Zh2 (P2.extract 0 (P2.size-1))=true/\M.Zer P1.data.toList=true/\((P2.extract (P2.size-1) P2.size).toList == [41])=true then some ⟨P0.data.toList,P1.data.toList.drop 1,(P2.extract 0 (P2.size-1)).data.toList⟩ else none:=by
 unfold Zb3 M.Zc4
 rw[show M.Zcn s.data.toList [32]=Zeh s ⟨#[32]⟩ from rfl,h,Lib.toList_data,Zfc,Zc2]
 unfold Ze5 Zh2
 rw[Zc2]
 simp only[Array.length_toList,ByteArray.size_data]
theorem Z5l(s:ByteArray)(h1:(Zeh s ⟨#[32]⟩).length≠1)(h3:(Zeh s ⟨#[32]⟩).length≠3):Zb3 s=none:=by
 unfold Zb3 M.Zc4
 rw[show M.Zcn s.data.toList [32]=Zeh s ⟨#[32]⟩ from rfl]
 split
 ·rename_i e;rw[e] at h1;simp at h1
 ·rename_i e;rw[e] at h3;simp at h3
 ·rfl
theorem Z1g(s P:ByteArray)(w:World)(hl:s.size<=100000)(h:Zeh s ⟨#[32]⟩=[P.data.toList]):
 Calls Tryz.prog 103 #[.string s] w fun e w'=>∃ a b c,e=.returned (.tuple #[.agg #[Zbe a,Zbe b,Zbe c],.bool (Zb3 s).isSome])/\chB (Zb3 s) a b c/\Below w.heap.size w w':=by
 have hPl:P.size<=s.size:=Zb7 (ps:=[P]) h P (by simp)
 have cC:=fun wx=>Zto s ⟨#[32]⟩ wx (by decide) (by omega) (by decide) [P] h
 have HC:Hid (Zb3 s=if Ze5 P=true then some ⟨s.data.toList,[],[]⟩ else none):=Z7s s P h
 clear h
 go_enter Tryz.func103,Tryz.ntmps103
 go_wp2_with fail
 refine(cC _).mono ?_
 rintro e w1 ⟨g,cap,rfl,hg1,hg2,hcap,hc,hB⟩
 have c0:w1.cell? ⟨g,0,none⟩=some (.string P):=hc 0 (by simp)
 clear hc cC
 obtain⟨hcl,hfz⟩:=Zna hB
 have hz:w.heap.size<w1.heap.size:=by have:=hB.size;simp at this;omega
 simp only[List.length_cons,List.length_nil,Nat.zero_add] at hcap ⊢
 go_wp2_with (go_at_call 59;refine(Zee _ _ (by omega)).mono ?_;rintro e w' ⟨rfl,rfl⟩)
 refine bodyPost_ret (v:=.tuple #[.agg #[.string s,.string ⟨#[]⟩,.string ⟨#[]⟩],.bool (Ze5 P)]) (by simp[results,Tryz.results103,go_sem,hcl]) rfl ⟨s.data.toList,[],[],?_,?_,?_⟩
 ·rw[HC.out,Z1d];rfl
 ·rw[HC.out];split
  ·exact Z0h _ _ _
  ·exact Zhr _ _ _
 ·exact(((bt ((Below.refl _ w).alloc ler _) hB).setCell ler _).setCell ler _).setCell ler _
theorem Zpw(s P:ByteArray)(ps:List ByteArray)(w:World)(hl:s.size<=100000)(h:Zeh s ⟨#[32]⟩=(P :: ps).map (fun p=>p.data.toList))(h1:ps.length≠0)(h3:ps.length≠2):
 Calls Tryz.prog 103 #[.string s] w fun e w'=>∃ a b c,e=.returned (.tuple #[.agg #[Zbe a,Zbe b,Zbe c],.bool (Zb3 s).isSome])/\chB (Zb3 s) a b c/\Below w.heap.size w w':=by
 have hPl:P.size<=s.size:=Zb7 h P (by simp)
 have cC:=fun wx=>Zto s ⟨#[32]⟩ wx (by decide) (by omega) (by decide) (P :: ps) h
 have HC:Hid (Zb3 s=none):=Z5l s (by rw[h];simp;exact fun e=>h1 (by simp[e])) (by rw[h];simp;omega)
 have hlen:=(M.Zbx s.data.toList [32]).2
 have hn:(P :: ps).length<=100001:=by
  have e:(Zeh s ⟨#[32]⟩).length=(P :: ps).length:=by rw[h];simp
  have:(Zeh s ⟨#[32]⟩).length<=s.data.toList.length+1:=hlen
  simp only[Array.length_toList,ByteArray.size_data] at this
  omega
 clear h hlen
 obtain⟨n,hnn⟩:∃ n,n=(P :: ps).length:=⟨_,rfl⟩
 have g1:n≠1:=by rw[hnn];simp;exact fun e=>h1 (by simp[e])
 have g3:n≠3:=by rw[hnn];simp;omega
 have g0:0<n:=by rw[hnn];simp
 have t1:((n:Int) == 1)=false:=by rw[beq_eq_false_iff_ne];omega
 have t3:((n:Int) != 3)=true:=by rw[bne_iff_ne];omega
 have HN:=hid hnn
 rw[<-hnn] at hn
 clear hnn
 go_enter Tryz.func103,Tryz.ntmps103
 go_wp2_with fail
 refine(cC _).mono ?_
 rintro e w1 ⟨g,cap,rfl,hg1,hg2,hcap,hc,hB⟩
 have c0:w1.cell? ⟨g,0,none⟩=some (.string P):=hc 0 (by simp)
 clear hc cC
 rw[<-HN.out] at hcap ⊢
 obtain⟨hcl,hfz⟩:=Zna hB
 have hz:w.heap.size<w1.heap.size:=by have:=hB.size;simp at this;omega
 go_wp2_with (go_at_call 59;refine(Zee _ _ (by omega)).mono ?_;rintro e w' ⟨rfl,rfl⟩)
 refine bodyPost_ret (v:=.tuple #[.agg #[.string ⟨#[]⟩,.string ⟨#[]⟩,.string ⟨#[]⟩],.bool false]) (by simp[results,Tryz.results103,go_sem,hcl]) rfl ⟨[],[],[],?_,?_,?_⟩
 ·rw[HC.out];rfl
 ·rw[HC.out];exact Zhr _ _ _
 ·exact(((bt ((Below.refl _ w).alloc ler _) hB).setCell ler _).setCell ler _).setCell ler _
theorem Yap{p:ByteArray}(h:M.Zer p.data.toList=true):
 ((p.toList == [40,60,60])=true) \/
 ((p.toList == [40,60,60])=false/\(p.toList == [40,60,61])=true) \/
 ((p.toList == [40,60,60])=false/\(p.toList == [40,60,61])=false/\(p.toList == [40,61])=true) \/
 ((p.toList == [40,60,60])=false/\(p.toList == [40,60,61])=false/\(p.toList == [40,61])=false/\(p.toList == [40,62,61])=true) \/
 ((p.toList == [40,60,60])=false/\(p.toList == [40,60,61])=false/\(p.toList == [40,61])=false/\(p.toList == [40,62,61])=false/\(p.toList == [40,62,62])=true):=by
 rw[<-Lib.toList_data] at h
 unfold M.Zer at h
 generalize (p.toList == [40,60,60])=a at *
 generalize (p.toList == [40,60,61])=b at *
 generalize (p.toList == [40,61])=c at *
 generalize (p.toList == [40,62,61])=d at *
 generalize (p.toList == [40,62,62])=e at *
 revert h
 cases a <;> cases b <;> cases c <;> cases d <;> cases e <;> decide
theorem sign0{p:ByteArray}(h:¬ M.Zer p.data.toList=true):
 (p.toList == [40,60,60])=false/\(p.toList == [40,60,61])=false/\(p.toList == [40,61])=false/\(p.toList == [40,62,61])=false/\(p.toList == [40,62,62])=false:=by
 rw[<-Lib.toList_data] at h
 unfold M.Zer at h
 generalize (p.toList == [40,60,60])=a at *
 generalize (p.toList == [40,60,61])=b at *
 generalize (p.toList == [40,61])=c at *
 generalize (p.toList == [40,62,61])=d at *
 generalize (p.toList == [40,62,62])=e at *
 revert h
 cases a <;> cases b <;> cases c <;> cases d <;> cases e <;> decide
theorem Z8h{p:ByteArray}(h:M.Zer p.data.toList=true):1<=p.size:=by
 by_cases e:p.size=0
 ·have:p.data.toList=[]:=List.length_eq_zero_iff.mp (by simpa using e)
  rw[this] at h;exact absurd h (by decide)
 ·omega
theorem Zup(s P0 P1 P2:ByteArray)(w:World)(hl:s.size<=100000)(h:Zeh s ⟨#[32]⟩=[P0.data.toList,P1.data.toList,P2.data.toList]):
 Calls Tryz.prog 103 #[.string s] w fun e w'=>∃ a b c,e=.returned (.tuple #[.agg #[Zbe a,Zbe b,Zbe c],.bool (Zb3 s).isSome])/\chB (Zb3 s) a b c/\Below w.heap.size w w':=by
 have hP0:P0.size<=s.size:=Zb7 (ps:=[P0,P1,P2]) h P0 (by simp)
 have hP1:P1.size<=s.size:=Zb7 (ps:=[P0,P1,P2]) h P1 (by simp)
 have hP2:P2.size<=s.size:=Zb7 (ps:=[P0,P1,P2]) h P2 (by simp)
 have cC:=fun wx=>Zto s ⟨#[32]⟩ wx (by decide) (by omega) (by decide) [P0,P1,P2] h
 have HC:=Z77 s P0 P1 P2 h
 replace HC:Hid _:=HC
 clear h
 by_cases hn:Ze5 P0=true
 ·by_cases h2:P2.size=0
  ·have HE:Hid (Zb3 s=none):=by show _ = _;rw[HC.out,if_neg (fun h=>by have:=h.2.1;omega)]
   have h2':((P2.size:Int) == 0)=true:=by rw[h2];rfl
   clear h2 HC
   go_enter Tryz.func103,Tryz.ntmps103
   go_wp2_with fail
   refine(cC _).mono ?_
   rintro e w1 ⟨g,cap,rfl,hg1,hg2,hcap,hc,hB⟩
   have c0:w1.cell? ⟨g,0,none⟩=some (.string P0):=hc 0 (by simp)
   have c2:w1.cell? ⟨g,2,none⟩=some (.string P2):=hc 2 (by simp)
   clear hc cC
   obtain⟨hcl,hfz⟩:=Zna hB
   have hz:w.heap.size<w1.heap.size:=by have:=hB.size;simp at this;omega
   simp only[List.length_cons,List.length_nil,Nat.zero_add] at hcap ⊢
   go_wp2_with (go_at_call 59;refine(Zee _ _ (by omega)).mono ?_;rintro e w' ⟨rfl,rfl⟩)
   refine bodyPost_ret (v:=.tuple #[.agg #[.string ⟨#[]⟩,.string ⟨#[]⟩,.string ⟨#[]⟩],.bool false]) (by simp[results,Tryz.results103,go_sem,hcl]) rfl ⟨[],[],[],?_,?_,?_⟩
   ·rw[HE.out];rfl
   ·rw[HE.out];exact Zhr _ _ _
   ·exact(((bt ((Below.refl _ w).alloc ler _) hB).setCell ler _).setCell ler _).setCell ler _
  ·have h2':((P2.size:Int) == 0)=false:=by rw[beq_eq_false_iff_ne];omega
   have h2p:0<P2.size:=by omega
   clear h2
   by_cases hsg:M.Zer P1.data.toList=true
   ·have hp1:1<=P1.size:=Z8h hsg
    by_cases hv:Zh2 (P2.extract 0 (P2.size-1))=true
    ·by_cases hla:((P2.extract (P2.size-1) P2.size).toList == [41])=true
     ·have HE:Hid (Zb3 s=some ⟨P0.data.toList,P1.data.toList.drop 1,(P2.extract 0 (P2.size-1)).data.toList⟩):=by
       show _ = _;rw[HC.out,if_pos ⟨hn,h2p,hv,hsg,hla⟩]
      clear HC
      rcases Yap hsg with k1|⟨k1,k2⟩|⟨k1,k2,k3⟩|⟨k1,k2,k3,k4⟩|⟨k1,k2,k3,k4,k5⟩
      all_goals
       clear hsg
       go_enter Tryz.func103,Tryz.ntmps103
       go_wp2_with fail
       refine(cC _).mono ?_
       rintro e w1 ⟨g,cap,rfl,hg1,hg2,hcap,hc,hB⟩
       have c0:w1.cell? ⟨g,0,none⟩=some (.string P0):=hc 0 (by simp)
       have c1:w1.cell? ⟨g,1,none⟩=some (.string P1):=hc 1 (by simp)
       have c2:w1.cell? ⟨g,2,none⟩=some (.string P2):=hc 2 (by simp)
       clear hc cC
       obtain⟨hcl,hfz⟩:=Zna hB
       have hz:w.heap.size<w1.heap.size:=by have:=hB.size;simp at this;omega
       simp only[List.length_cons,List.length_nil,Nat.zero_add] at hcap ⊢
       go_wp2_with (first|(go_at_call 59;refine(Zee _ _ (by omega)).mono ?_;rintro e w' ⟨rfl,rfl⟩)|(go_at_call 60;refine(Ze8 _ _ (by simp;omega)).mono ?_;rintro e w' ⟨rfl,rfl⟩))
       go_region
       all_goals
        go_wp2
        refine bodyPost_ret (v:=.tuple #[.agg #[.string P0,.string (P1.extract 1 P1.size),.string (P2.extract 0 (P2.size-1))],.bool true]) (by simp[results,Tryz.results103,go_sem,hcl]) rfl ⟨P0.data.toList,P1.data.toList.drop 1,(P2.extract 0 (P2.size-1)).data.toList,?_,?_,?_⟩
        ·rw[HE.out,Ztg,Ztg,Ztg,Zfc];rfl
        ·rw[HE.out];exact Z0h _ _ _
        ·exact((((bt ((Below.refl _ w).alloc ler _) hB).setCell ler _).setCell ler _).setCell ler _).drew
     ·have HE:Hid (Zb3 s=none):=by show _ = _;rw[HC.out,if_neg (fun h=>hla h.2.2.2.2)]
      have hla':((P2.extract (P2.size-1) P2.size).toList == [41])=false:=by simpa using hla
      clear HC hla
      rcases Yap hsg with k1|⟨k1,k2⟩|⟨k1,k2,k3⟩|⟨k1,k2,k3,k4⟩|⟨k1,k2,k3,k4,k5⟩
      all_goals
       clear hsg
       go_enter Tryz.func103,Tryz.ntmps103
       go_wp2_with fail
       refine(cC _).mono ?_
       rintro e w1 ⟨g,cap,rfl,hg1,hg2,hcap,hc,hB⟩
       have c0:w1.cell? ⟨g,0,none⟩=some (.string P0):=hc 0 (by simp)
       have c1:w1.cell? ⟨g,1,none⟩=some (.string P1):=hc 1 (by simp)
       have c2:w1.cell? ⟨g,2,none⟩=some (.string P2):=hc 2 (by simp)
       clear hc cC
       obtain⟨hcl,hfz⟩:=Zna hB
       have hz:w.heap.size<w1.heap.size:=by have:=hB.size;simp at this;omega
       simp only[List.length_cons,List.length_nil,Nat.zero_add] at hcap ⊢
       go_wp2_with (first|(go_at_call 59;refine(Zee _ _ (by omega)).mono ?_;rintro e w' ⟨rfl,rfl⟩)|(go_at_call 60;refine(Ze8 _ _ (by simp;omega)).mono ?_;rintro e w' ⟨rfl,rfl⟩))
       refine bodyPost_ret (v:=.tuple #[.agg #[.string ⟨#[]⟩,.string ⟨#[]⟩,.string ⟨#[]⟩],.bool false]) (by simp[results,Tryz.results103,go_sem,hcl]) rfl ⟨[],[],[],?_,?_,?_⟩
       ·rw[HE.out];rfl
       ·rw[HE.out];exact Zhr _ _ _
       ·exact(((bt ((Below.refl _ w).alloc ler _) hB).setCell ler _).setCell ler _).setCell ler _
    ·have HE:Hid (Zb3 s=none):=by show _ = _;rw[HC.out,if_neg (fun h=>hv h.2.2.1)]
     have hv':Zh2 (P2.extract 0 (P2.size-1))=false:=by simpa using hv
     clear HC hv
     rcases Yap hsg with k1|⟨k1,k2⟩|⟨k1,k2,k3⟩|⟨k1,k2,k3,k4⟩|⟨k1,k2,k3,k4,k5⟩
     all_goals
      clear hsg
      go_enter Tryz.func103,Tryz.ntmps103
      go_wp2_with fail
      refine(cC _).mono ?_
      rintro e w1 ⟨g,cap,rfl,hg1,hg2,hcap,hc,hB⟩
      have c0:w1.cell? ⟨g,0,none⟩=some (.string P0):=hc 0 (by simp)
      have c1:w1.cell? ⟨g,1,none⟩=some (.string P1):=hc 1 (by simp)
      have c2:w1.cell? ⟨g,2,none⟩=some (.string P2):=hc 2 (by simp)
      clear hc cC
      obtain⟨hcl,hfz⟩:=Zna hB
      have hz:w.heap.size<w1.heap.size:=by have:=hB.size;simp at this;omega
      simp only[List.length_cons,List.length_nil,Nat.zero_add] at hcap ⊢
      go_wp2_with (first|(go_at_call 59;refine(Zee _ _ (by omega)).mono ?_;rintro e w' ⟨rfl,rfl⟩)|(go_at_call 60;refine(Ze8 _ _ (by simp;omega)).mono ?_;rintro e w' ⟨rfl,rfl⟩))
      refine bodyPost_ret (v:=.tuple #[.agg #[.string ⟨#[]⟩,.string ⟨#[]⟩,.string ⟨#[]⟩],.bool false]) (by simp[results,Tryz.results103,go_sem,hcl]) rfl ⟨[],[],[],?_,?_,?_⟩
      ·rw[HE.out];rfl
      ·rw[HE.out];exact Zhr _ _ _
      ·exact(((bt ((Below.refl _ w).alloc ler _) hB).setCell ler _).setCell ler _).setCell ler _
   ·have HE:Hid (Zb3 s=none):=by show _ = _;rw[HC.out,if_neg (fun h=>hsg h.2.2.2.1)]
    obtain⟨k1,k2,k3,k4,k5⟩:=sign0 hsg
    clear HC hsg
    by_cases hv:Zh2 (P2.extract 0 (P2.size-1))=true
    all_goals
     first|(have hv':Zh2 (P2.extract 0 (P2.size-1))=false:=by simpa using hv)|skip
     go_enter Tryz.func103,Tryz.ntmps103
     go_wp2_with fail
     refine(cC _).mono ?_
     rintro e w1 ⟨g,cap,rfl,hg1,hg2,hcap,hc,hB⟩
     have c0:w1.cell? ⟨g,0,none⟩=some (.string P0):=hc 0 (by simp)
     have c1:w1.cell? ⟨g,1,none⟩=some (.string P1):=hc 1 (by simp)
     have c2:w1.cell? ⟨g,2,none⟩=some (.string P2):=hc 2 (by simp)
     clear hc cC
     obtain⟨hcl,hfz⟩:=Zna hB
     have hz:w.heap.size<w1.heap.size:=by have:=hB.size;simp at this;omega
     simp only[List.length_cons,List.length_nil,Nat.zero_add] at hcap ⊢
     go_wp2_with (first|(go_at_call 59;refine(Zee _ _ (by omega)).mono ?_;rintro e w' ⟨rfl,rfl⟩)|(go_at_call 60;refine(Ze8 _ _ (by simp;omega)).mono ?_;rintro e w' ⟨rfl,rfl⟩))
     refine bodyPost_ret (v:=.tuple #[.agg #[.string ⟨#[]⟩,.string ⟨#[]⟩,.string ⟨#[]⟩],.bool false]) (by simp[results,Tryz.results103,go_sem,hcl]) rfl ⟨[],[],[],?_,?_,?_⟩
     ·rw[HE.out];rfl
     ·rw[HE.out];exact Zhr _ _ _
     ·exact(((bt ((Below.refl _ w).alloc ler _) hB).setCell ler _).setCell ler _).setCell ler _
 ·have hn':Ze5 P0=false:=by simpa using hn
  have HE:Hid (Zb3 s=none):=by show _ = _;rw[HC.out,if_neg (fun h=>hn h.1)]
  clear hn HC
  go_enter Tryz.func103,Tryz.ntmps103
  go_wp2_with fail
  refine(cC _).mono ?_
  rintro e w1 ⟨g,cap,rfl,hg1,hg2,hcap,hc,hB⟩
  have c0:w1.cell? ⟨g,0,none⟩=some (.string P0):=hc 0 (by simp)
  clear hc cC
  obtain⟨hcl,hfz⟩:=Zna hB
  have hz:w.heap.size<w1.heap.size:=by have:=hB.size;simp at this;omega
  simp only[List.length_cons,List.length_nil,Nat.zero_add] at hcap ⊢
  go_wp2_with (go_at_call 59;refine(Zee _ _ (by omega)).mono ?_;rintro e w' ⟨rfl,rfl⟩)
  refine bodyPost_ret (v:=.tuple #[.agg #[.string ⟨#[]⟩,.string ⟨#[]⟩,.string ⟨#[]⟩],.bool false]) (by simp[results,Tryz.results103,go_sem,hcl]) rfl ⟨[],[],[],?_,?_,?_⟩
  ·rw[HE.out];rfl
  ·rw[HE.out];exact Zhr _ _ _
  ·exact(((bt ((Below.refl _ w).alloc ler _) hB).setCell ler _).setCell ler _).setCell ler _
theorem Z02(s:ByteArray)(w:World)(hl:s.size<=100000):
 Calls Tryz.prog 103 #[.string s] w fun e w'=>∃ a b c,e=.returned (.tuple #[.agg #[Zbe a,Zbe b,Zbe c],.bool (Zb3 s).isSome])/\chB (Zb3 s) a b c/\Below w.heap.size w w':=by
 obtain⟨ps,hps⟩:=Zdm (Zeh s ⟨#[32]⟩)
 have h0:0<(Zeh s ⟨#[32]⟩).length:=(M.Zbx s.data.toList [32]).1
 match ps,hps with
 | [],hps=>rw[hps] at h0;simp at h0
 | [P],hps=>exact Z1g s P w hl hps
 | [P0,P1,P2],hps=>exact Zup s P0 P1 P2 w hl hps
 | [P,Q],hps=>exact Zpw s P [Q] w hl hps (by simp) (by simp)
 | P :: Q :: R :: T :: ps,hps=>exact Zpw s P (Q :: R :: T :: ps) w hl hps (by simp) (by simp)
theorem Ycr:(Tryz.prog.info? 125).map (fun i=>(i.zero,i.size,i.bytes))=some (some (.agg #[.string ⟨#[]⟩,.string ⟨#[]⟩,.string ⟨#[]⟩]),3,48):=by kernel_rfl
def Zsh(c:M.Ch):List Value:=[Zbe c.name,Zbe c.sign,Zbe c.ver]
def Zak(l:List M.Ch):List Value:=l.flatMap Zsh
theorem Zwc(l:List M.Ch):(Zak l).length=l.length*3:=by
 induction l with
 | nil=>rfl
 | cons c l ih=>simp only[Zak,List.flatMap_cons,List.length_append] at ih ⊢;rw[ih];simp[Zsh];omega
theorem Zlk(l:List M.Ch)(c:M.Ch):Zak (l++[c])=Zak l++[Zbe c.name,Zbe c.sign,Zbe c.ver]:=by
 simp[Zak,Zsh]
def Ze1(s sep:ByteArray)(most:Nat):Option (List M.Ch):=M.Zbz s.data.toList sep.data.toList most
def Ya2(ps:List ByteArray)(k:Nat)(l:List M.Ch):Prop:=M.Zfg M.Zc4 ((ps.take k).map (fun p=>p.data.toList))=some l
theorem Zgh{α:Type}(f:List UInt8->Option α):∀ (l:List (List UInt8)) (r:List α) (s:List UInt8),M.Zfg f l=some r->M.Zfg f (l++[s])=(f s).map (fun c=>r++[c])
 | [],r,s,h=>by
  simp only[M.Zfg,Option.some.injEq] at h
  subst h
  simp only[List.nil_append,M.Zfg]
  cases f s <;> rfl
 | x :: l,r,s,h=>by
  simp only[M.Zfg] at h
  simp only[List.cons_append,M.Zfg]
  cases hx:f x with
  | none=>rw[hx] at h;cases h
  | some c=>
   rw[hx] at h
   cases hl:M.Zfg f l with
   | none=>rw[hl] at h;cases h
   | some t=>
    rw[hl] at h
    cases h
    rw[Zgh f l t s hl]
    cases f s <;> rfl
theorem Zkv{α:Type}(f:List UInt8->Option α):∀ (l m:List (List UInt8)),M.Zfg f l=none->M.Zfg f (l++m)=none
 | [],m,h=>by simp[M.Zfg] at h
 | x :: l,m,h=>by
  simp only[M.Zfg] at h
  simp only[List.cons_append,M.Zfg]
  cases hx:f x with
  | none=>rfl
  | some c=>
   rw[hx] at h
   cases hl:M.Zfg f l with
   | none=>rw[Zkv f l m hl]
   | some t=>rw[hl] at h;cases h
theorem Yco{ps:List ByteArray}{k:Nat}{l:List M.Ch}(h:Ya2 ps k l)(hk:k<ps.length)(c:M.Ch)(hc:Zb3 ps[k]=some c):Ya2 ps (k+1) (l++[c]):=by
 unfold Ya2 at h ⊢
 rw[List.take_add_one,List.getElem?_eq_getElem hk]
 simp only[Option.toList_some,List.map_append,List.map_cons,List.map_nil]
 rw[Zgh _ _ _ _ h,show M.Zc4 ps[k].data.toList=some c from hc]
 rfl
theorem Yc1{ps:List ByteArray}{k:Nat}{l:List M.Ch}(h:Ya2 ps k l)(hk:k<ps.length)(hc:Zb3 ps[k]=none):M.Zfg M.Zc4 (ps.map (fun p=>p.data.toList))=none:=by
 unfold Ya2 at h
 have e:ps.map (fun p=>p.data.toList)=((ps.take k).map (fun p=>p.data.toList)++[ps[k].data.toList])++(ps.drop (k+1)).map (fun p=>p.data.toList):=by
  have e1:ps=(ps.take k++[ps[k]])++ps.drop (k+1):=by
   rw[List.append_assoc,List.singleton_append,<-List.drop_eq_getElem_cons hk,List.take_append_drop]
  have e2:=congrArg (List.map (fun p:ByteArray=>p.data.toList)) e1
  rw[List.map_append,List.map_append] at e2
  exact e2
 rw[e]
 exact Zkv _ _ _ (by rw[Zgh _ _ _ _ h,show M.Zc4 ps[k].data.toList=none from hc];rfl)
theorem Zyu(s:ByteArray)(w:World)(hl:s.size<=100000):
 Calls Tryz.prog 103 #[.string s] w fun e w'=>∃ A B C:ByteArray,e=.returned (.tuple #[.agg #[.string A,.string B,.string C],.bool (Zb3 s).isSome])/\chB (Zb3 s) A.data.toList B.data.toList C.data.toList/\Below w.heap.size w w':=by
 refine(Z02 s w hl).mono fun e w' ⟨a,b,c,he,hc,hb⟩=>⟨⟨a.toArray⟩,⟨b.toArray⟩,⟨c.toArray⟩,he,hc,hb⟩
theorem own_below{w w':World}{B e size n:Nat}{v:Value}{xs:List Value}(h:w.ownsRow B e size v n xs)(hb:Below w.heap.size w w'):w'.ownsRow B e size v n xs:=
 h.kept (row:=none) ⟨hb.os,hb.tape,hb.output,hb.size,fun k hk _=>hb.block k hk⟩ (by cases hv:v.ownBlock with|none=>exact .inl rfl|some k=>exact .inr (by simp))
theorem Zac{w:World}{B e size n:Nat}{v:Value}{xs:List Value}(h:w.ownsRow B e size v n xs):∃ a cap,v=.slice a n cap:=by
 obtain⟨_,⟨rfl,rfl⟩|⟨g,cap,cur,rfl,_⟩⟩:=h
 ·exact⟨_,_,rfl⟩
 ·exact⟨_,_,rfl⟩
theorem Zf3{w:World}{B B' e size n:Nat}{v:Value}{xs:List Value}(h:w.ownsRow B e size v n xs)(hB:B'<=B):w.ownsRow B' e size v n xs:=by
 obtain⟨hl,h|⟨g,cap,cur,h1,h2,h3⟩⟩:=h
 ·exact⟨hl,.inl h⟩
 ·exact⟨hl,.inr ⟨g,cap,cur,h1,by omega,h3⟩⟩
theorem Zk7(w:World)(xs:List Value)(t:TypeId):∀ j u,xs[j]? = some u->(w.alloc (.cells xs.toArray t)).cell? ((⟨w.heap.size,0,none⟩:Addr).add j)=some u:=by
 intro j u hj
 have e:(w.alloc (.cells xs.toArray t)).heap[w.heap.size]? = some (.cells xs.toArray t):=(MapKept.heap_alloc w _).1
 have e2:((⟨w.heap.size,0,none⟩:Addr).add j)=⟨w.heap.size,j,none⟩:=by unfold Addr.add;by_cases h:j=0 <;> simp[h]
 rw[e2]
 simp only[World.cell?,e]
 simpa using hj
theorem Zqy(w:World)(o:Obj)(xs:List Value)(t:TypeId):∀ j u,xs[j]? = some u->((w.alloc o).alloc (.cells xs.toArray t)).cell? ((⟨w.heap.size+1,0,none⟩:Addr).add j)=some u:=by
 have h:=Zk7 (w.alloc o) xs t
 have e:(w.alloc o).heap.size=w.heap.size+1:=by simp
 rw[e] at h
 exact h
theorem Zpy(s sep:ByteArray)(most:Int)(w:World)(hs:0<sep.size)(hl:s.size<=100000)(hl2:sep.size<=1000)(hm:0<=most):
 Calls Tryz.prog 62 #[.string s,.string sep,.int .i64 most] w fun e w'=>∃ v l,e=.returned (.tuple #[v,.bool (Ze1 s sep most.toNat).isSome])/\
  w'.ownsRow w.heap.size 125 3 v l.length (Zak l)/\(∀ x,Ze1 s sep most.toNat=some x->x=l)/\l.length<=s.size+1/\Below w.heap.size w w':=by
 obtain⟨i0,hi0,hz0,hz1,hz2⟩:=info_parts Ycr
 obtain⟨ps,hps⟩:=Zdm (Zeh s sep)
 have HP:=hid hps
 have hpn:ps.length<=s.size+1:=by
  have:=(M.Zbx s.data.toList sep.data.toList).2
  have e:(Zeh s sep).length=ps.length:=by rw[hps];simp
  have:(Zeh s sep).length<=s.data.toList.length+1:=this
  simp only[Array.length_toList,ByteArray.size_data] at this
  omega
 have cC:=fun wx=>Zto s sep wx hs (by omega) hl2 ps hps
 have hsz:∀ p∈ps,p.size<=s.size:=fun p hp=>Zb7 hps p hp
 have HZ:=hid hsz
 clear hps hsz
 go_enter Tryz.func62,Tryz.ntmps62
 go_wp2_with fail
 refine(cC _).mono ?_
 rintro e w1 ⟨g,cap,rfl,hg1,hg2,hcap,hc,hB⟩
 clear cC
 have HC:=hid hc
 clear hc
 have hB0:Below w.heap.size w w1:=hB
 go_wp2
 go_loopw [9,10,11,12] (fun v i _ _ wr=>∃ (l:List M.Ch) (k:Nat),i=.int .i64 k/\k<=ps.length/\l.length=k/\wr.ownsRow w1.heap.size 125 3 v k (Zak l)/\Below w1.heap.size w1 wr/\Hid (Ya2 ps k l)) (fun _ i _ _ _=>ps.length-(intOf i).toNat)
 case atStart=>exact⟨[],0,rfl,Nat.zero_le _,rfl,World.ownsRow_nil _ _ _ _,Below.refl _ _,rfl⟩
 case round=>
  obtain⟨l,k,rfl,hk,hlk,qV,hBr,HR⟩:=hrel
  have hsr:=hBr.size
  by_cases hlt:k<ps.length
  ·have ck:wr.cell? ⟨g,k,none⟩=some (.string ps[k]):=(hBr.cell (p:=⟨g,k,none⟩) hg2).trans (HC.out k hlt)
   have hpk:ps[k].size<=s.size:=HZ.out _ (List.getElem_mem hlt)
   cases hch:Zb3 ps[k] with
   | none=>
    have cK:=fun wx=>Zyu ps[k] wx (by omega)
    rw[hch] at cK
    have HE:Hid (Ze1 s sep most.toNat=none):=by
     show M.Zbz _ _ _ = _
     unfold M.Zbz
     rw[show M.Zcn s.data.toList sep.data.toList=Zeh s sep from rfl,HP.out,Yc1 HR.out hlt hch]
    clear hch
    go_wp2_with fail
    refine(cK _).mono ?_
    rintro e w2 ⟨A,B,C,rfl,_,hB2⟩
    clear cK
    go_wp2
    go_ret2
    refine⟨_,[],?_,World.ownsRow_nil _ _ _ _,?_,Nat.zero_le _,?_⟩
    ·rw[HE.out];rfl
    ·intro x hx;rw[HE.out] at hx;cases hx
    ·exact(bt hB0 (bt hBr hB2)).alloc (by have:=hB2.size;have:=hB0.size;omega) _
   | some c=>
    have cK:=fun wx=>Zyu ps[k] wx (by omega)
    rw[hch] at cK
    have HC2:=hid hch
    clear hch
    go_wp2_with fail
    refine(cK _).mono ?_
    rintro e w2 ⟨A,B,C,rfl,hABC,hB2⟩
    clear cK
    have HK:=hid hABC
    clear hABC
    have hown2:=own_below qV hB2
    have hs2:=hB2.size
    go_wp2_with (at_builtin;refine wpList_append_own _ rfl _ _ 27 rfl w1.heap.size 125 i0 (.agg #[.string ⟨#[]⟩,.string ⟨#[]⟩,.string ⟨#[]⟩]) 3 48 Tryz.underlying27 hi0 hz0 hz1 hz2 rfl (by decide) _ _ _ rfl ((hown2.alloc _).alloc _) ⟨w2.heap.size+1,0,none⟩ 1 1 [.string A,.string B,.string C] rfl rfl ?c1 ?c2 ?c3 ?c4 ?c5 ?_)
    case c1=>exact Zqy _ _ [.string A,.string B,.string C] _
    case c2=>intro u hu;simp at hu;rcases hu with rfl|rfl|rfl <;> rfl
    case c3=>unfold maxLen;omega
    case c4=>omega
    case c5=>simp;omega
    intro v' w3 hown' hgrow _
    have R1:w3.ownsRow w1.heap.size 125 3 v' (k+1) (Zak (l++[c])):=by
     obtain⟨e1,e2,e3⟩:=HK.out c rfl
     rw[Zlk,e1,e2,e3];exact hown'
    have R2:Below w1.heap.size w1 w3:=
     (((hBr.trans (hB2.mono hsr)).alloc (by omega) _).alloc (by simp;omega) _).grown hgrow (by simp;omega) (fun j hj=>(qV.lt j hj).1)
    clear hown' hgrow qV hown2
    go_wp2
    go_roundw
    case rel=>exact⟨_,k+1,by go_num,by omega,by simp;omega,R1,R2,Yco HR.out hlt c HC2.out⟩
    case measure=>simp[intOf];omega
  ·have hkk:k=ps.length:=by omega
   have HE:Hid (Ze1 s sep most.toNat=if l.length<=most.toNat then some l else none):=by
    have h:=HR.out
    unfold Ya2 at h
    rw[hkk,List.take_length] at h
    show M.Zbz _ _ _ = _
    unfold M.Zbz
    rw[show M.Zcn s.data.toList sep.data.toList=Zeh s sep from rfl,HP.out,h]
   obtain⟨av,cv,hv⟩:=Zac qV
   subst hv
   by_cases hm2:(k:Int)<=most
   ·have HE2:Hid (Ze1 s sep most.toNat=some l):=by show _ = _;rw[HE.out,if_pos (by omega)]
    clear hkk HE
    go_wp2
    go_ret2
    refine⟨_,l,?_,by rw[hlk];exact Zf3 qV hB0.size,?_,by omega,bt hB0 hBr⟩
    ·rw[HE2.out];rfl
    ·intro x hx;rw[HE2.out] at hx;cases hx;rfl
   ·have HE2:Hid (Ze1 s sep most.toNat=none):=by show _ = _;rw[HE.out,if_neg (by omega)]
    clear hkk HE
    go_wp2
    go_ret2
    refine⟨.slice av k cv,?_,l,?_,?_,?_,bt hB0 hBr⟩
    ·rw[HE2.out];rfl
    ·rw[hlk];exact Zf3 qV hB0.size
    ·intro x hx;rw[HE2.out] at hx;cases hx
    ·omega
def Zgn(s:ByteArray):Bool:=M.Zs7 s.data.toList
def Zjx(q:List UInt8):Bool:=M.made M.Zf6 1 8 q && !(q == [46]) && !(q == [46,46])
theorem Z51(s:ByteArray)(ps:List ByteArray)(h:Zeh s ⟨#[47]⟩=ps.map (fun p=>p.data.toList)):
 Zgn s=(ps.all (fun p=>Zjx p.data.toList) && decide (ps.length<=3)):=by
 unfold Zgn M.Zs7
 rw[show M.Zcn s.data.toList [47]=Zeh s ⟨#[47]⟩ from rfl,h,List.all_map,List.length_map]
 rfl
theorem Z1s(s:ByteArray)(w:World)(hl:s.size<=100000):
 Calls Tryz.prog 104 #[.string s] w fun e w'=>e=.returned (.bool (Zgn s))/\Below w.heap.size w w':=by
 obtain⟨ps,hps⟩:=Zdm (Zeh s ⟨#[47]⟩)
 have HI:Hid (Zgn s=(ps.all (fun p=>Zjx p.data.toList) && decide (ps.length<=3))):=Z51 s ps hps
 have hpn:ps.length<=s.size+1:=by
  have:=(M.Zbx s.data.toList [47]).2
  have e:(Zeh s ⟨#[47]⟩).length=ps.length:=by rw[hps];simp
  have:(Zeh s ⟨#[47]⟩).length<=s.data.toList.length+1:=this
  simp only[Array.length_toList,ByteArray.size_data] at this
  omega
 have cC:=fun wx=>Zto s ⟨#[47]⟩ wx (by decide) (by omega) (by decide) ps hps
 have HZ:Hid (∀ p∈ps,p.size<=s.size):=fun p hp=>Zb7 hps p hp
 clear hps
 go_enter Tryz.func104,Tryz.ntmps104
 go_wp2_with fail
 refine(cC _).mono ?_
 rintro e w1 ⟨g,cap,rfl,hg1,hg2,hcap,hc,hB⟩
 clear cC
 have HC:=hid hc
 clear hc
 go_wp2
 go_loop [4,5] (fun i _=>∃ k:Nat,i=.int .i64 k/\k<=ps.length/\Hid (∀ j (h:j<ps.length),j<k->Zjx ps[j].data.toList=true)) (fun i _=>ps.length-(intOf i).toNat)
 case atStart=>exact⟨0,rfl,Nat.zero_le _,fun j _ h=>by omega⟩
 case round=>
  obtain⟨k,rfl,hk,HA⟩:=hrel
  by_cases hlt:k<ps.length
  ·have ck:w1.cell? ⟨g,k,none⟩=some (.string ps[k]):=HC.out k hlt
   have hpk:ps[k].size<=s.size:=HZ.out _ (List.getElem_mem hlt)
   have cM:∀ wx,Calls Tryz.prog 101 #[.string ps[k],.string partT,.int .i64 1,.int .i64 8] wx fun e w'=>e=.returned (.bool (Zg5 M.Zf6 1 8 ps[k]))/\w'=wx:=fun wx=>
    Zsb partT M.Zf6 Z9r 1 8 (by decide) (by decide) (by decide) ps[k] wx (by omega)
   by_cases hok:Zjx ps[k].data.toList=true
   ·have h1:Zg5 M.Zf6 1 8 ps[k]=true:=by unfold Zjx at hok;simp at hok;exact hok.1.1
    have h2:(ps[k].toList == [46])=false:=by rw[Lib.toList_data];unfold Zjx at hok;simp at hok;simpa using hok.1.2
    have h3:(ps[k].toList == [46,46])=false:=by rw[Lib.toList_data];unfold Zjx at hok;simp at hok;simpa using hok.2
    have HO:=hid hok
    clear hok
    go_wp2_with (go_at_call 101;refine(cM _).mono ?_;rintro e w' ⟨rfl,rfl⟩)
    go_round
    case rel=>
     refine⟨k+1,by go_num,by omega,fun j hj hjk=>?_⟩
     by_cases hjk':j<k
     ·exact HA.out j hj hjk'
     ·obtain rfl:j=k:=by omega
      exact HO.out
    case measure=>simp[intOf];omega
   ·have HF:Hid (Zgn s=false):=by
     show _ = _
     rw[HI.out,Bool.and_eq_false_iff]
     left
     rw[List.all_eq_false]
     exact⟨ps[k],List.getElem_mem hlt,hok⟩
    by_cases h1:Zg5 M.Zf6 1 8 ps[k]=true
    ·by_cases h2:(ps[k].toList == [46])=true
     ·clear hok
      go_wp2_with (go_at_call 101;refine(cM _).mono ?_;rintro e w' ⟨rfl,rfl⟩)
      go_ret
      exact⟨Zad HF.out.symm,hB⟩
     ·have h2':(ps[k].toList == [46])=false:=by simpa using h2
      have h3:(ps[k].toList == [46,46])=true:=by
       rw[Lib.toList_data] at h2' ⊢
       unfold Zjx at hok
       rw[show M.made M.Zf6 1 8 ps[k].data.toList=true from h1,h2'] at hok
       simpa using hok
      clear hok h2
      go_wp2_with (go_at_call 101;refine(cM _).mono ?_;rintro e w' ⟨rfl,rfl⟩)
      go_ret
      exact⟨Zad HF.out.symm,hB⟩
    ·have h1':Zg5 M.Zf6 1 8 ps[k]=false:=by simpa using h1
     clear hok h1
     go_wp2_with (go_at_call 101;refine(cM _).mono ?_;rintro e w' ⟨rfl,rfl⟩)
     go_ret
     exact⟨Zad HF.out.symm,hB⟩
  ·have hall:ps.all (fun p=>Zjx p.data.toList)=true:=by
    rw[List.all_eq_true]
    intro p hp
    obtain⟨j,hj,rfl⟩:=List.getElem_of_mem hp
    exact HA.out j hj (by omega)
   have HF:Hid (Zgn s=decide (ps.length<=3)):=by show _ = _;rw[HI.out,hall];rfl
   clear hall
   go_wp2
   go_ret
   exact⟨Zad (by rw[HF.out,decide_eq_decide];omega),hB⟩
end Go.Proofs.YtgnfknjopafngaaGreatDoor
