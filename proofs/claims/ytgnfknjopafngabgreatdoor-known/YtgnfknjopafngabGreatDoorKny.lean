import Derived.Test.YtgnfknjopafngabGreatDoorKnx
set_option maxRecDepth 100000
set_option maxHeartbeats 8000000
namespace Go.Proofs.YtgnfknjopafngabGreatDoor
open Go.RowKit Go.Maps
theorem bars_iff{l:List M.Pk}{p:M.Pk}:M.Bars l p↔∃ c∈p.bars,c.name≠p.name/\(l.any fun q=>M.fitsS c q)=true:=by
 have hfit:∀ {c:M.Ch} {q:M.Pk},M.fitsS c q=true->c.name=q.name:=fun {c q} h=>by
  unfold M.fitsS at h
  split at h
  ·assumption
  ·cases h
 unfold M.Bars M.any1S
 constructor
 ·rintro ⟨q,hq,hne,h⟩
  obtain⟨c,hc,h⟩:=List.any_eq_true.1 h
  simp only[List.any_cons,List.any_nil,Bool.or_false] at h
  exact⟨c,hc,by rw[hfit h];exact hne,List.any_eq_true.2 ⟨q,hq,h⟩⟩
 ·rintro ⟨c,hc,hne,h⟩
  obtain⟨q,hq,h⟩:=List.any_eq_true.1 h
  exact⟨q,hq,by rw[<-hfit h];exact hne,List.any_eq_true.2 ⟨c,hc,by simpa using h⟩⟩
theorem firstBarring_any(b:Nat)(l:List M.Pk)(w:World)(hl:SetIn w b l)(hn:l.length<=1000000)(hs:∀ p∈l,ReadP p):
 Calls Tryz.prog 234 #[.map (some b)] w fun e w'=>∃ T:ByteArray,e=.returned (.string T)/\T.data.toList=M.barringS l/\Below w.heap.size w w':=by
 have cN:=fun wx (hb:Below w.heap.size w wx)=>names_any b l wx (hl.below hb) hn
 have HL:=hid hl
 have HA:=hid hl.apart
 have HS:=hid hs
 have HMin:Hid (M.IsMin (fun x=>∃ p∈l,M.Bars l p/\x=p.name) (M.barringS l)):=M.barring_min hl.apart (fun p hp=>(hs p hp).name)
 have HRL:Hid ((M.sortN (l.map M.Pk.name)).length=l.length):=by show _ = _;rw[(M.sortN_perm _).length_eq,List.length_map]
 generalize hr:M.sortN (l.map M.Pk.name)=r at HRL
 have HR:=hid hr
 clear hl hs hr
 go_enter Tryz.func234,Tryz.ntmps234
 go_wp2_with fail
 refine(cN _ (Below.refl _ _)).mono ?_
 rintro e w1 ⟨v,rfl,hrow,hB1⟩
 obtain⟨a1,c1,e1⟩:=own_form hrow
 subst e1
 have HRow:Hid (RowIn w1 0 w1.heap.size (.slice a1 l.length c1) l.length (nmCells r)):=by rw[<-HR.out];exact(RowIn.own hrow).wide (Nat.zero_le _) ler
 clear cN hrow
 go_wp2
 go_loopw [4,6,10] (fun _ _ i wr=>∃ n:Nat,i=.int .i64 n/\n<=l.length/\Below w1.heap.size w1 wr/\Hid (∀ q∈l,q.name∈r.take n->¬ M.Bars l q)) (fun _ _ i _=>l.length-(intOf i).toNat)
 case atStart=>exact⟨0,rfl,Nat.zero_le _,Below.refl _ _,fun q _ hq=>by simp at hq⟩
 case round=>
  obtain⟨n,rfl,hn',hBr,HQ⟩:=hrel
  by_cases hlt:n<l.length
  ·have hnr:n<r.length:=by rw[HRL.out];exact hlt
   obtain⟨p,hp,hpn⟩:∃ p∈l,p.name=r[n]:=by
    obtain⟨p,hp,e⟩:=List.mem_map.1 ((M.sortN_perm (l.map M.Pk.name)).mem_iff.1 (by rw[HR.out];exact List.getElem_mem hnr))
    exact⟨p,hp,e⟩
   obtain⟨g,rfl,hg,hcap,hc⟩:=HRow.out.cellAt (by omega)
   have c0:wr.cell? ⟨g,n,none⟩=some (.string ⟨p.name.toArray⟩):=(hBr.cell (p:=⟨g,n,none⟩) hg).trans (hc n _ (by unfold nmCells;rw[List.getElem?_map,List.getElem?_eq_getElem hnr,hpn];rfl))
   obtain⟨Y,hY⟩:∃ Y:ByteArray,Y=⟨p.name.toArray⟩:=⟨_,rfl⟩
   rw[<-hY] at c0
   have hYd:Y.data.toList=p.name:=by rw[hY]
   have hYs:Y.size<=maxLen:=by have:=(HS.out p hp).short.name;rw[size_of hYd];unfold maxLen;omega
   have HYd:=hid hYd
   have hnn:=(HS.out p hp).short.bars.1
   have HSp:Hid (ReadP p):=HS.out p hp
   have HNm:Hid (r[n]? = some p.name):=by show _ = _;rw[List.getElem?_eq_getElem hnr,hpn]
   obtain⟨f,hm,hv⟩:=HL.out.below (bt hB1 hBr)
   obtain⟨nv,bv,fv,ev,hN1,hN2,hN3⟩:=hv p hp
   obtain⟨an,cn,en⟩:=hN2.form
   subst en
   have hr1:(Instr.lookup 108 (.map (some b)) (.string Y) false).run Tryz.prog wr=.ok (.agg #[.string ⟨p.name.toArray⟩,.string ⟨p.ver.toArray⟩,nv,.slice an p.bars.length cn,fv]) wr:=by
    rw[hm.look Tryz.underlying9 setMap (zeroPk_run wr) hYs,hYd,(look_mem hm.keys).2 (List.mem_map.2 ⟨p,hp,rfl⟩),Option.getD_some,ev]
   have HN:=hid hN2
   clear hm hv ev hN1 hN2 hN3 hY hYd hc hpn
   obtain⟨W0,hW0⟩:∃ W,W=wr:=⟨_,rfl⟩
   subst hW0
   have hfd:=field_bars
   go_wp2
   clear hfd
   go_loopw [6,19] (fun _ i wr=>∃ j:Nat,i=.int .i64 j/\j<=p.bars.length/\Below W0.heap.size W0 wr/\Hid (∀ c∈p.bars.take j,¬ (c.name≠p.name/\(l.any fun q=>M.fitsS c q)=true))) (fun _ i _=>p.bars.length-(intOf i).toNat)
   case atStart=>exact⟨0,rfl,Nat.zero_le _,Below.refl _ _,fun c hc=>by simp at hc⟩
   case round=>
    obtain⟨j,rfl,hj',hBj,HC⟩:=hrel
    by_cases hlj:j<p.bars.length
    ·obtain⟨bg,rfl,hbg,hcapg,hcg⟩:=HN.out.cellAt (by omega)
     obtain⟨k0,k1,k2⟩:=ch_cell hlj
     obtain⟨X,hX⟩:∃ X:ByteArray,X=⟨p.bars[j].name.toArray⟩:=⟨_,rfl⟩
     have q0:wr.cell? ⟨bg,j*3,none⟩=some (.string X):=by rw[hX];exact(hBj.cell (p:=⟨bg,j*3,none⟩) hbg).trans (hcg _ _ k0)
     have q1:wr.cell? ⟨bg,j*3+1,none⟩=some (.string ⟨p.bars[j].sign.toArray⟩):=(hBj.cell (p:=⟨bg,j*3+1,none⟩) hbg).trans (hcg _ _ k1)
     have q2:wr.cell? ⟨bg,j*3+2,none⟩=some (.string ⟨p.bars[j].ver.toArray⟩):=(hBj.cell (p:=⟨bg,j*3+2,none⟩) hbg).trans (hcg _ _ k2)
     have HX:Hid (X.data.toList=p.bars[j].name):=by show _ = _;rw[hX]
     have hsc:=HSp.out.short.bars.2 _ (List.getElem_mem hlj)
     have hBw:Below w.heap.size w wr:=bt hB1 (bt hBr hBj)
     have cH:=fun wx (hb:Below wr.heap.size wr wx)=>has_any b l p.bars[j] wx (HL.out.below (bt hBw hb)) (fun q hq=>(HS.out q hq).smallQ.1) (HSp.out.good.bars _ (List.getElem_mem hlj)) (by omega) (by omega)
     rw[<-hX] at cH
     have HBa:Hid (Below wr.heap.size wr (wr.alloc (.cells #[.string X,.string ⟨p.bars[j].sign.toArray⟩,.string ⟨p.bars[j].ver.toArray⟩] 140))):=(Below.refl _ wr).alloc ler _
     clear hcg k0 k1 k2 hsc hX
     by_cases hm:(X.toList == Y.toList)=true
     ·have HC2:Hid (∀ c∈p.bars.take (j+1),¬ (c.name≠p.name/\(l.any fun q=>M.fitsS c q)=true)):=fun c hc=>by
       rw[List.take_succ_eq_append_getElem hlj] at hc
       rcases List.mem_append.1 hc with hc|hc
       ·exact HC.out c hc
       ·simp at hc
        subst hc
        rintro ⟨hne,_⟩
        rw[Lib.toList_data,Lib.toList_data,beq_iff_eq,HX.out,HYd.out] at hm
        exact hne hm
      have hB7:Below W0.heap.size W0 (wr.alloc (.cells #[.string X,.string ⟨p.bars[j].sign.toArray⟩,.string ⟨p.bars[j].ver.toArray⟩] 140)):=bt hBj HBa.out
      clear cH
      go_wp2
      go_roundw
      case rel=>exact⟨j+1,by go_num,by omega,hB7,HC2⟩
      case measure=>simp[intOf];omega
     ·replace hm:(X.toList == Y.toList)=false:=by simpa using hm
      go_wp2_with fail
      refine(cH _ HBa.out).mono ?_
      rintro e w5 ⟨rfl,hB5⟩
      have hB6:Below wr.heap.size wr w5:=bt HBa.out hB5
      have HNe:Hid (p.bars[j].name≠p.name):=by
       rw[Lib.toList_data,Lib.toList_data,beq_eq_false_iff_ne,HX.out,HYd.out] at hm
       exact hm
      clear cH HBa hB5
      cases hB:(l.any fun q=>M.fitsS p.bars[j] q) with
      | true=>
       have HLk:Hid (M.barringS l=p.name):=first_name HA.out HMin.out hp (by rw[HR.out];exact HNm.out) (bars_iff.2 ⟨_,List.getElem_mem hlj,HNe.out,hB⟩) (by rw[HR.out];exact HQ.out)
       have hB7:Below w.heap.size w w5:=bt hBw hB6
       clear hB
       go_wp2
       go_ret
       exact⟨Y,rfl,by rw[HLk.out];exact HYd.out,hB7⟩
      | false=>
       have HC2:Hid (∀ c∈p.bars.take (j+1),¬ (c.name≠p.name/\(l.any fun q=>M.fitsS c q)=true)):=fun c hc=>by
        rw[List.take_succ_eq_append_getElem hlj] at hc
        rcases List.mem_append.1 hc with hc|hc
        ·exact HC.out c hc
        ·simp at hc
         subst hc
         rintro ⟨_,h⟩
         rw[hB] at h
         cases h
       have hB7:Below W0.heap.size W0 w5:=bt hBj hB6
       clear hB
       go_wp2
       go_roundw
       case rel=>exact⟨j+1,by go_num,by omega,hB7,HC2⟩
       case measure=>simp[intOf];omega
    ·have hmm:j=p.bars.length:=by omega
     have HQ2:Hid (∀ q∈l,q.name∈r.take (n+1)->¬ M.Bars l q):=fun q hq hqn=>by
      rw[List.take_succ_eq_append_getElem hnr] at hqn
      rcases List.mem_append.1 hqn with hqn|hqn
      ·exact HQ.out q hq hqn
      ·simp at hqn
       have e:q=p:=HA.out.eq hq hp (by
        have:=HNm.out
        rw[List.getElem?_eq_getElem hnr] at this
        rw[hqn]
        exact Option.some.inj this)
       subst e
       intro hb
       obtain⟨c,hc,h⟩:=bars_iff.1 hb
       exact HC.out c (by rw[hmm,List.take_length];exact hc) h
     have hB7:Below w1.heap.size w1 wr:=bt hBr hBj
     clear hmm
     go_wp2
     go_roundw
     case rel=>exact⟨n+1,by go_num,by omega,hB7,HQ2⟩
     case measure=>simp[intOf];omega
  ·have hnn:n=l.length:=by omega
   have HE:Hid (M.barringS l=[]):=by
    refine no_name HMin.out (fun q hq hqn=>HQ.out q hq ?_)
    rw[hnn,<-HRL.out,List.take_length,<-HR.out]
    exact hqn
   have hBw:Below w.heap.size w wr:=bt hB1 hBr
   clear hnn
   go_wp2
   go_ret
   exact⟨⟨#[]⟩,rfl,by rw[HE.out],hBw⟩
theorem cntMap:Tryz.prog.underlying 277=some (.map 9 3):=by kernel_rfl
theorem zeroInt_run(w:World):(zeroValue 3).run Tryz.prog w=.ok (.int .i64 0) w:=by rw[Tryz.zeroValue3]
def CntIn(w:World)(b:Nat)(c:List UInt8->Nat)(N:Nat):Prop:=∃ m:List KV,StrMap Tryz.prog 9 w b m/\m.length<=N/\∀ x,lookK m x=if c x=0 then none else some (.int .i64 (c x))
theorem CntIn.below{w w':World}{B b:Nat}{c:List UInt8->Nat}{N:Nat}(h:CntIn w b c N)(hb:Below B w w')(hlt:b<B):CntIn w' b c N:=by
 obtain⟨m,h1,h2⟩:=h
 exact⟨m,h1.below hb hlt,h2⟩
theorem CntIn.kept{w w':World}{b:Nat}{c:List UInt8->Nat}{N:Nat}{row:Option Nat}(h:CntIn w b c N)(hg:w.grownBy w' row)(hne:some b≠row):CntIn w' b c N:=by
 obtain⟨m,h1,h2⟩:=h
 exact⟨m,h1.kept hg hne,h2⟩
theorem CntIn.get{m:List KV}{c:List UInt8->Nat}(h:∀ x,lookK m x=if c x=0 then none else some (.int .i64 (c x)))(x:List UInt8):(lookK m x).getD (.int .i64 0)=.int .i64 (c x):=by
 rw[h]
 by_cases h0:c x=0
 ·rw[if_pos h0,h0];rfl
 ·rw[if_neg h0];rfl
theorem look_put{m:List KV}{k x:List UInt8}{v:Value}:lookK (putK m k v) x=if x=k then some v else lookK m x:=by
 unfold lookK putK
 by_cases h:x=k
 ·subst h;simp
 ·rw[if_neg h,List.find?_cons_of_neg (by simpa using fun e=>h e.symm)]
  congr 1
  exact find_filter_keep (fun p hp=>by
   have:p.1=x:=by simpa using hp
   rw[this]
   simpa using h) m
def plus1(c:List UInt8->Nat)(k:List UInt8):List UInt8->Nat:=fun x=>if x=k then c k+1 else c x
theorem CntIn.put{m:List KV}{c:List UInt8->Nat}{N:Nat}{w':World}{b:Nat}{k:List UInt8}(hN:m.length<=N)(h:∀ x,lookK m x=if c x=0 then none else some (.int .i64 (c x)))
 (h':StrMap Tryz.prog 9 w' b (putK m k (.int .i64 ((c k:Int)+1)))):CntIn w' b (plus1 c k) (N+1):=by
 refine⟨_,h',?_,fun x=>?_⟩
 ·unfold putK
  have:=List.length_filter_le (fun p:KV=>p.1 != k) m
  simp only[List.length_cons]
  omega
 ·rw[look_put]
  unfold plus1
  by_cases hx:x=k
  ·rw[if_pos hx,if_pos hx,if_neg (by omega)]
   simp
  ·rw[if_neg hx,if_neg hx]
   exact h x
def pathsAt(l:List M.Pk)(q:KV):List (List UInt8):=match l.find? (fun p=>p.name == q.1) with
 | some p=>p.files.map M.Fl.path
 | none=>[]
theorem pathsAt_is{l:List M.Pk}(ha:M.Apart l){p:M.Pk}(hp:p∈l)(v:Value):pathsAt l (p.name,v)=p.files.map M.Fl.path:=by
 unfold pathsAt
 cases h:l.find? (fun q=>q.name == (p.name,v).1) with
 | none=>
  have:=List.find?_eq_none.1 h p hp
  simp at this
 | some q=>
  have h1:=List.find?_some h
  have e:=ha.eq (List.mem_of_find?_eq_some h) hp (by simpa using h1)
  rw[e]
theorem paths_all{l:List M.Pk}(ha:M.Apart l)(f:M.Pk->Value):(l.map fun p=>(p.name,f p)).flatMap (pathsAt l)=M.pathsOf l:=by
 unfold M.pathsOf
 rw[List.flatMap_map]
 have:∀ k:List M.Pk,(∀ p∈k,p∈l)->k.flatMap (fun p=>pathsAt l (p.name,f p))=k.flatMap (fun p=>p.files.map M.Fl.path):=by
  intro k
  induction k with
  | nil=>intro _;rfl
  | cons p k ih=>intro h;rw[List.flatMap_cons,List.flatMap_cons,pathsAt_is ha (h p (by simp)),ih (fun q hq=>h q (by simp[hq]))]
 exact this l (fun p hp=>hp)
theorem file_cells{l:List M.Fl}{k:Nat}(hk:k<l.length):(flsCells l)[k*2]? = some (.string ⟨l[k].path.toArray⟩)/\(flsCells l)[k*2+1]? = some (.string ⟨l[k].content.toArray⟩):=by
 rw[Nat.mul_comm]
 exact⟨fl_cell hk,fl_cell2' hk⟩
theorem owners_any(b:Nat)(l:List M.Pk)(w:World)(hl:SetIn w b l)(hn:l.length<=100000)(hs:∀ p∈l,ReadP p):
 Calls Tryz.prog 266 #[.map (some b)] w fun e w'=>∃ ob N,e=.returned (.map (some ob))/\CntIn w' ob (fun x=>(M.pathsOf l).count x) N/\N<=1000000000/\Below w.heap.size w w':=by
 have hmm:=@run_makeMap Tryz.prog
 have HA:=hid hl.apart
 have HS:=hid hs
 have hbl:=hl.lt
 obtain⟨f,m1,v1⟩:=hl
 have HTot:Hid ((M.pathsOf l).length<=1000000000):=by
  show _<=_
  have:∀ k:List M.Pk,(∀ p∈k,ReadP p)->(M.pathsOf k).length<=k.length*1000:=by
   intro k
   induction k with
   | nil=>intro _;simp[M.pathsOf]
   | cons p k ih=>
    intro h
    have h1:=(h p (by simp)).short.filen
    have h2:=ih (fun q hq=>h q (by simp[hq]))
    unfold M.pathsOf at h2 ⊢
    rw[List.flatMap_cons,List.length_append,List.length_map,List.length_cons]
    omega
  have:=this l hs
  omega
 generalize hW1:w.alloc (.map #[] 0)=W1
 have hga:w.grownBy W1 none:=by rw[<-hW1];exact World.grownBy_alloc w _ none
 have s1:W1.heap.size=w.heap.size+1:=by rw[<-hW1];simp
 have hm0:StrMap Tryz.prog 9 W1 w.heap.size []:=by rw[<-hW1];exact StrMap.made w
 have HB1:Hid (Below w.heap.size w W1):=by rw[<-hW1];exact(Below.refl _ w).alloc ler _
 have m1':=m1.kept hga (by simp)
 have HV:=hid v1
 have HSh:Hid (∀ q∈l.map (fun p=>(p.name,f p)),PkShape q.2):=fun q hq=>by
  obtain⟨p,hp,rfl⟩:=List.mem_map.1 hq
  exact(v1 p hp).shape
 have HPA:Hid ((l.map fun p=>(p.name,f p)).flatMap (pathsAt l)=M.pathsOf l):=paths_all HA.out f
 generalize hL:(l.map fun p=>(p.name,f p))=L at m1' HSh HPA
 have HL:=hid hL
 clear v1 hs m1 hga hL
 go_enter Tryz.func266,Tryz.ntmps266
 go_wp2_with (first|(at_range;refine wpList_range_str rfl _ rfl Tryz.underlying9 setMap b L rfl m1' ?_;intro w0 hrg0 hg0 hs0)|go_in)
 go_frame
 rw[s1] at hrg0 hs0 ⊢
 have HC0:Hid (CntIn w0 w.heap.size (fun _=>0) 0):=⟨[],hm0.kept hg0 (by simp),Nat.le_refl _,fun x=>rfl⟩
 have hB0:Below w.heap.size w w0:=HB1.out.grown hg0 HB1.out.size (fun j hj=>by cases hj)
 go_loopw [5,7] (fun _ _ wr=>∃ (todo:List KV) (cnt N:Nat) (c:List UInt8->Nat),Ranging Tryz.prog 9 wr b (w.heap.size+1) L todo cnt/\Hid (CntIn wr w.heap.size c N)/\Hid (∀ x,c x+(todo.flatMap (pathsAt l)).count x=(M.pathsOf l).count x)/\Hid (N+(todo.flatMap (pathsAt l)).length<=(M.pathsOf l).length)/\Below w.heap.size w wr) (fun _ _ wr=>wr.rangeLeft b (w.heap.size+1))
 case atStart=>exact⟨L,_,0,fun _=>0,hrg0,HC0,fun x=>by rw[HPA.out];simp,by show _<=_;rw[HPA.out];omega,hB0⟩
 case round=>
  obtain⟨todo,cnt,N,c,hrg,HC,HX,HN,hBr⟩:=hrel
  go_wp2_with (first|(at_next;refine wpList_next_pk rfl _ rfl Tryz.underlying9 b (w.heap.size+1) L todo cnt rfl hrg HSh.out ?_ ?_)|go_in)
  ·intro hc0 ht0
   have HF:Hid (CntIn wr w.heap.size (fun x=>(M.pathsOf l).count x) N):=by
    have e:c=fun x=>(M.pathsOf l).count x:=by
     funext x
     have:=HX.out x
     rw[ht0] at this
     simpa using this
    rw[<-e]
    exact HC.out
   have HNl:Hid (N<=1000000000):=by show _<=_;have:=HN.out;have:=HTot.out;omega
   clear hc0 ht0
   go_wp2
   go_ret
   exact⟨_,N,rfl,HF.out,HNl.out,hBr⟩
  ·intro k x y x1 n1 c1 x2 n2 c2 x3 n3 c3 todo' w' cnt' hks hperm hrg' hlt hg' hs' hen
   have hrr:w.heap.size≠w.heap.size+1:=by omega
   have hmem:(k.data.toList,Value.agg #[.string x,.string y,.slice x1 n1 c1,.slice x2 n2 c2,.slice x3 n3 c3])∈L:=by
    obtain⟨_,_,_,_,_,_,_,h4⟩:=hrg
    exact((h4 _).1 (hperm.mem_iff.2 List.mem_cons_self)).1
   obtain⟨p,hp,hpe⟩:∃ p∈l,(p.name,f p)=(k.data.toList,Value.agg #[.string x,.string y,.slice x1 n1 c1,.slice x2 n2 c2,.slice x3 n3 c3]):=by
    rw[<-HL.out] at hmem
    obtain⟨p,hp,e⟩:=List.mem_map.1 hmem
    exact⟨p,hp,e⟩
   have hpn:p.name=k.data.toList:=congrArg Prod.fst hpe
   have hpv:f p=Value.agg #[.string x,.string y,.slice x1 n1 c1,.slice x2 n2 c2,.slice x3 n3 c3]:=congrArg Prod.snd hpe
   have hrow:RowIn w 0 w.heap.size (.slice x3 n3 c3) p.files.length (flsCells p.files)/\n3=p.files.length:=by
    obtain⟨nv,bv,fv,e,_,_,h3⟩:=HV.out p hp
    rw[hpv] at e
    simp only[Value.agg.injEq,Array.mk.injEq,List.cons.injEq,and_true] at e
    obtain⟨_,_,_,_,rfl⟩:=e
    obtain⟨_,_,e3⟩:=h3.form
    injection e3 with _ e3 _
    exact⟨h3,e3⟩
   obtain⟨hrow,rfl⟩:=hrow
   have HFR:=hid hrow
   have HPth:Hid (pathsAt l (k.data.toList,Value.agg #[.string x,.string y,.slice x1 n1 c1,.slice x2 n2 c2,.slice x3 p.files.length c3])=p.files.map M.Fl.path):=by
    show _ = _
    rw[<-hpn]
    exact pathsAt_is HA.out hp _
   have HSp:Hid (ReadP p):=HS.out p hp
   have hfn:=HSp.out.short.filen
   have HX1:Hid (∀ x,c x+((p.files.map M.Fl.path).count x+(todo'.flatMap (pathsAt l)).count x)=(M.pathsOf l).count x):=fun z=>by
    have:=HX.out z
    rw[(hperm.flatMap_right (pathsAt l)).count_eq z,List.flatMap_cons,List.count_append,HPth.out] at this
    exact this
   have HN1:Hid (N+(p.files.length+(todo'.flatMap (pathsAt l)).length)<=(M.pathsOf l).length):=by
    show _<=_
    have:=HN.out
    rw[(hperm.flatMap_right (pathsAt l)).length_eq,List.flatMap_cons,List.length_append,HPth.out,List.length_map] at this
    exact this
   have hc':CntIn w' w.heap.size c N:=HC.out.kept hg' (fun e=>hrr (Option.some.inj e))
   have hBw':Below w.heap.size w w':=hBr.grown hg' hBr.size (fun j hj=>by cases hj;omega)
   clear hperm hmem HC HX HN hs' hpe hpv hpn hrow
   generalize hW2:w'.alloc (.cells #[.string x,.string y,.slice x1 n1 c1,.slice x2 n2 c2,.slice x3 p.files.length c3] 87)=W2
   have hga:w'.grownBy W2 none:=by rw[<-hW2];exact World.grownBy_alloc w' _ none
   have HC2:Hid (CntIn W2 w.heap.size c N):=hc'.kept hga (by simp)
   have hrg2:=hrg'.kept hga (by simp) (by simp)
   have q4:W2.cell? ⟨w'.heap.size,4,none⟩=some (.slice x3 p.files.length c3):=by rw[<-hW2];exact new_at w' [.string x,.string y,.slice x1 n1 c1,.slice x2 n2 c2,.slice x3 p.files.length c3] _ 4 _ rfl
   have hBw2:Below w.heap.size w W2:=hBw'.grown hga hBw'.size (fun j hj=>by cases hj)
   clear hc'
   go_wp2
   go_loopw [7,18] (fun _ i wr=>∃ (j N2:Nat) (c2:List UInt8->Nat),i=.int .i64 j/\j<=p.files.length/\Ranging Tryz.prog 9 wr b (w.heap.size+1) L todo' cnt'/\Hid (CntIn wr w.heap.size c2 N2)/\Hid (∀ x,c2 x=c x+((p.files.take j).map M.Fl.path).count x)/\Hid (N2=N+j)/\Below w.heap.size w wr) (fun _ i _=>p.files.length-(intOf i).toNat)
   case atStart=>exact⟨0,N,c,rfl,Nat.zero_le _,hrg2,HC2,fun x=>by simp,rfl,hBw2⟩
   case round=>
    obtain⟨j,N2,c2,rfl,hj,hrj,HCj,HXj,HNj,hBj⟩:=hrel
    by_cases hlj:j<p.files.length
    ·obtain⟨gf,rfl,hgf,hcapf,hcf⟩:=HFR.out.cellAt (by omega)
     obtain⟨f0,f1⟩:=file_cells hlj
     obtain⟨Y,hY⟩:∃ Y:ByteArray,Y=⟨p.files[j].path.toArray⟩:=⟨_,rfl⟩
     have q0:wr.cell? ⟨gf,j*2,none⟩=some (.string Y):=by rw[hY];exact(hBj.cell (p:=⟨gf,j*2,none⟩) hgf).trans (hcf _ _ f0)
     have q1:wr.cell? ⟨gf,j*2+1,none⟩=some (.string ⟨p.files[j].content.toArray⟩):=(hBj.cell (p:=⟨gf,j*2+1,none⟩) hgf).trans (hcf _ _ f1)
     have hYd:Y.data.toList=p.files[j].path:=by rw[hY]
     have hYs:Y.size<=maxLen:=by have:=(HSp.out.short.files _ (List.getElem_mem hlj)).1;rw[size_of hYd];unfold maxLen;omega
     generalize hW3:wr.alloc (.cells #[.string Y,.string ⟨p.files[j].content.toArray⟩] 144)=W3
     have hgb:wr.grownBy W3 none:=by rw[<-hW3];exact World.grownBy_alloc wr _ none
     have r0:W3.cell? ⟨wr.heap.size,0,none⟩=some (.string Y):=by rw[<-hW3];exact new_at wr [.string Y,.string ⟨p.files[j].content.toArray⟩] _ 0 _ rfl
     have hrj3:=hrj.kept hgb (by simp) (by simp)
     obtain⟨m,hm,hml,hmk⟩:=HCj.out.kept hgb (by simp)
     have hcb:c2 Y.data.toList<=1000000000:=by
      have h1:=HXj.out Y.data.toList
      have h2:=HX1.out Y.data.toList
      have h3:=HTot.out
      have h4:=List.count_le_length (a:=Y.data.toList) (l:=M.pathsOf l)
      have h5:((p.files.take j).map M.Fl.path).count Y.data.toList<=(p.files.map M.Fl.path).count Y.data.toList:=List.Sublist.count_le _ ((List.take_sublist j p.files).map _)
      omega
     have hlk:(Instr.lookup 277 (.map (some w.heap.size)) (.string Y) false).run Tryz.prog W3=.ok (.int .i64 (c2 Y.data.toList)) W3:=by
      rw[hm.look Tryz.underlying9 cntMap (zeroInt_run W3) hYs,CntIn.get hmk]
     have hw1:IntKind.i64.wrap ((c2 Y.data.toList:Int)+1)=(c2 Y.data.toList:Int)+1:=by rw[IntKind.wrap_i64];omega
     have hmlen:m.length<maxLen:=by
      have h1:=HNj.out
      have h2:=HN1.out
      have h3:=HTot.out
      unfold maxLen
      omega
     have HMk:=hid hmk
     have HX2:Hid (∀ x,plus1 c2 Y.data.toList x=c x+((p.files.take (j+1)).map M.Fl.path).count x):=fun z=>by
      rw[List.take_succ_eq_append_getElem hlj,List.map_append,List.count_append]
      unfold plus1
      have h1:=HXj.out z
      by_cases hz:z=Y.data.toList
      ·subst hz
       rw[if_pos rfl,h1]
       simp[hYd]
       omega
      ·rw[if_neg hz,h1]
       have:([p.files[j]].map M.Fl.path).count z=0:=by
        rw[List.count_eq_zero]
        simp
        rw[<-hYd]
        exact hz
       omega
     have HNj2:Hid (N2+1=N+(j+1)):=by show _ = _;rw[HNj.out];omega
     have hBw3:Below w.heap.size w W3:=hBj.grown hgb hBj.size (fun j hj=>by cases hj)
     generalize hcY:c2 Y.data.toList=cy at hlk hcb hw1
     have HcY:=hid hcY
     clear hY hYd f0 f1 hcf hmk hcY HCj
     go_wp2_with (first|(at_mapUpdate;refine wpList_put_str rfl _ _ _ rfl Tryz.underlying9 cntMap w.heap.size m rfl hm hmlen Y (.int .i64 ((cy:Int)+1)) rfl hYs rfl ?_;intro w6 hm6 hg6;go_frame)|go_in)
     have HC6:Hid (CntIn w6 w.heap.size (plus1 c2 Y.data.toList) (N2+1)):=CntIn.put hml HMk.out (by rw[HcY.out];exact hm6)
     have hrj6:=hrj3.kept hg6 (fun e=>by have:=Option.some.inj e;omega) (fun e=>by have:=Option.some.inj e;omega)
     have hB6:Below w.heap.size w w6:=hBw3.grown hg6 hBw3.size (fun j hj=>by cases hj;exact Nat.le_refl _)
     clear hm6 hg6 hm hlk
     go_wp2
     go_roundw
     case rel=>exact⟨j+1,N2+1,_,by go_num,by omega,hrj6,HC6,HX2,HNj2,hB6⟩
     case measure=>simp[intOf];omega
    ·have hjj:j=p.files.length:=by omega
     have HX3:Hid (∀ x,c2 x+(todo'.flatMap (pathsAt l)).count x=(M.pathsOf l).count x):=fun z=>by
      have h1:=HXj.out z
      have h2:=HX1.out z
      rw[hjj,List.take_length] at h1
      omega
     have HN3:Hid (N2+(todo'.flatMap (pathsAt l)).length<=(M.pathsOf l).length):=by
      show _<=_
      have h1:=HNj.out
      have h2:=HN1.out
      omega
     clear hjj
     go_wp2
     go_roundw
     case rel=>exact⟨todo',cnt',N2,c2,hrj,HCj,HX3,HN3,hBj⟩
     case measure=>rw[hrj.left_eq,hrg.left_eq];exact hlt
def sizeAt(l:List M.Pk)(q:KV):Nat:=match l.find? (fun p=>p.name == q.1) with
 | some p=>(M.printS p).length
 | none=>0
theorem sizeAt_is{l:List M.Pk}(ha:M.Apart l){p:M.Pk}(hp:p∈l)(v:Value):sizeAt l (p.name,v)=(M.printS p).length:=by
 unfold sizeAt
 cases h:l.find? (fun q=>q.name == (p.name,v).1) with
 | none=>
  have:=List.find?_eq_none.1 h p hp
  simp at this
 | some q=>
  have h1:=List.find?_some h
  have e:=ha.eq (List.mem_of_find?_eq_some h) hp (by simpa using h1)
  rw[e]
theorem sizes_all{l:List M.Pk}(ha:M.Apart l)(f:M.Pk->Value):((l.map fun p=>(p.name,f p)).map (sizeAt l)).sum=M.sizeS l:=by
 unfold M.sizeS
 rw[List.map_map]
 congr 1
 apply List.map_congr_left
 intro p hp
 exact sizeAt_is ha hp _
theorem qsize_any(b:Nat)(l:List M.Pk)(w:World)(hl:SetIn w b l)(hs:∀ p∈l,ReadP p)(hz:M.sizeS l<=1000000000):
 Calls Tryz.prog 86 #[.map (some b)] w fun e w'=>e=.returned (.int .i64 (M.sizeS l))/\Below w.heap.size w w':=by
 have HA:=hid hl.apart
 have HS:=hid hs
 have hbl:=hl.lt
 obtain⟨f,m1,v1⟩:=hl
 have HV:=hid v1
 have HSh:Hid (∀ q∈l.map (fun p=>(p.name,f p)),PkShape q.2):=fun q hq=>by
  obtain⟨p,hp,rfl⟩:=List.mem_map.1 hq
  exact(v1 p hp).shape
 have HPA:Hid (((l.map fun p=>(p.name,f p)).map (sizeAt l)).sum=M.sizeS l):=sizes_all HA.out f
 generalize hL:(l.map fun p=>(p.name,f p))=L at m1 HSh HPA
 have HL:=hid hL
 have HZ:=hid hz
 generalize hSz:M.sizeS l=Z at HPA HZ ⊢
 clear v1 hs hL hz hSz
 go_enter Tryz.func86,Tryz.ntmps86
 go_wp2_with (first|(at_range;refine wpList_range_str rfl _ rfl Tryz.underlying9 setMap b L rfl m1 ?_;intro w0 hrg0 hg0 hs0)|go_in)
 go_frame
 have hB0:Below w.heap.size w w0:=(Below.refl _ w).grown hg0 ler (fun j hj=>by cases hj)
 go_loopw [3,5] (fun c _ wr=>∃ (todo:List KV) (cnt N:Nat),c=.int .i64 N/\Ranging Tryz.prog 9 wr b w.heap.size L todo cnt/\Hid (N+(todo.map (sizeAt l)).sum=Z)/\Below w.heap.size w wr) (fun _ _ wr=>wr.rangeLeft b w.heap.size)
 case atStart=>exact⟨L,_,0,rfl,hrg0,by show _ = _;rw[HPA.out];omega,hB0⟩
 case round=>
  obtain⟨todo,cnt,N,rfl,hrg,HN,hBr⟩:=hrel
  go_wp2_with (first|(at_next;refine wpList_next_pk rfl _ rfl Tryz.underlying9 b w.heap.size L todo cnt rfl hrg HSh.out ?_ ?_)|go_in)
  ·intro hc0 ht0
   have HF:Hid (N=Z):=by
    show _ = _
    have:=HN.out
    rw[ht0] at this
    simpa using this
   clear hc0 ht0
   go_wp2
   go_ret
   refine⟨?_,hBr⟩
   rw[<-HF.out]
   rfl
  ·intro k x y x1 n1 c1 x2 n2 c2 x3 n3 c3 todo' w' cnt' hks hperm hrg' hlt hg' hs' hen
   have hmem:(k.data.toList,Value.agg #[.string x,.string y,.slice x1 n1 c1,.slice x2 n2 c2,.slice x3 n3 c3])∈L:=by
    obtain⟨_,_,_,_,_,_,_,h4⟩:=hrg
    exact((h4 _).1 (hperm.mem_iff.2 List.mem_cons_self)).1
   obtain⟨p,hp,hpe⟩:∃ p∈l,(p.name,f p)=(k.data.toList,Value.agg #[.string x,.string y,.slice x1 n1 c1,.slice x2 n2 c2,.slice x3 n3 c3]):=by
    rw[<-HL.out] at hmem
    obtain⟨p,hp,e⟩:=List.mem_map.1 hmem
    exact⟨p,hp,e⟩
   have hpn:p.name=k.data.toList:=congrArg Prod.fst hpe
   have hpv:f p=Value.agg #[.string x,.string y,.slice x1 n1 c1,.slice x2 n2 c2,.slice x3 n3 c3]:=congrArg Prod.snd hpe
   have HN1:Hid (N+(M.printS p).length+(todo'.map (sizeAt l)).sum=Z):=by
    show _ = _
    have:=HN.out
    rw[(hperm.map (sizeAt l)).sum_nat,List.map_cons,List.sum_cons,<-hpn,sizeAt_is HA.out hp] at this
    omega
   have hBw':Below w.heap.size w w':=hBr.grown hg' hBr.size (fun j hj=>by cases hj;omega)
   generalize hW2:w'.alloc (.cells #[.string x,.string y,.slice x1 n1 c1,.slice x2 n2 c2,.slice x3 n3 c3] 87)=W2
   have hga:w'.grownBy W2 none:=by rw[<-hW2];exact World.grownBy_alloc w' _ none
   have hrg2:=hrg'.kept hga (by simp) (by simp)
   have hBw2:Below w.heap.size w W2:=hBw'.grown hga hBw'.size (fun j hj=>by cases hj)
   have hv2:PkVal W2 p (.agg #[.string x,.string y,.slice x1 n1 c1,.slice x2 n2 c2,.slice x3 n3 c3]):=by
    rw[<-hpv]
    exact(HV.out p hp).below hBw2
   have cO:=oneForm_any p _ W2 hv2 (HS.out p hp).short
   have hnw:∀ i u,[Value.string x,.string y,.slice x1 n1 c1,.slice x2 n2 c2,.slice x3 n3 c3][i]? = some u->W2.cell? ⟨w'.heap.size,i,none⟩=some u:=fun i u hu=>by rw[<-hW2];exact new_at w' _ _ i u hu
   have q0:W2.cell? ⟨w'.heap.size,0,none⟩=some (.string x):=hnw 0 _ rfl
   have q1:W2.cell? ⟨w'.heap.size,1,none⟩=some (.string y):=hnw 1 _ rfl
   have q2:W2.cell? ⟨w'.heap.size,2,none⟩=some (.slice x1 n1 c1):=hnw 2 _ rfl
   have q3:W2.cell? ⟨w'.heap.size,3,none⟩=some (.slice x2 n2 c2):=hnw 3 _ rfl
   have q4:W2.cell? ⟨w'.heap.size,4,none⟩=some (.slice x3 n3 c3):=hnw 4 _ rfl
   have hNz:N+(M.printS p).length<=1000000000:=by have:=HN1.out;have:=HZ.out;omega
   clear hperm hmem HN hs' hpe hpv hpn hv2 hnw hga
   go_wp2_with fail
   refine cO.mono ?_
   rintro e w3 ⟨T,rfl,hT,hB3⟩
   have hTs:T.size=(M.printS p).length:=by rw[<-hT];exact(len_data T).symm
   have hrg3:=hrg2.below hB3
   have hB4:Below w.heap.size w w3:=bt hBw2 hB3
   have HN2:Hid (N+T.size+(todo'.map (sizeAt l)).sum=Z):=by show _ = _;rw[hTs];exact HN1.out
   have hNt:N+T.size<=1000000000:=by rw[hTs];exact hNz
   have hre:w3.rangeLeft b w.heap.size<wr.rangeLeft b w.heap.size:=by rw[hrg3.left_eq,hrg.left_eq];exact hlt
   clear hT hTs hNz HN1 hrg2 hrg' cO q0 q1 q2 q3 q4 hW2 hen hBw2 hB3 hg' hlt
   go_wp2
   refine⟨⟨todo',cnt',N+T.size,by go_num,hrg3,HN2,hB4⟩,hre⟩
end Go.Proofs.YtgnfknjopafngabGreatDoor
