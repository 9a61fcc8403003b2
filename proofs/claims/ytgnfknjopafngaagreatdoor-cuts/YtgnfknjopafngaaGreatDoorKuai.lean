import Derived.Test.YtgnfknjopafngaaGreatDoorKuah
set_option maxRecDepth 100000
set_option maxHeartbeats 8000000
namespace Go.Proofs.YtgnfknjopafngaaGreatDoor
open Go.RowKit Go.Maps
theorem Zib:Tryz.prog.underlying 280=some (.map 9 3):=by kernel_rfl
theorem Zfi(w:World):(zeroValue 3).run Tryz.prog w=.ok (.int .i64 0) w:=by rw[Tryz.zeroValue3]
def Zcz(w:World)(b:Nat)(c:List UInt8->Nat)(N:Nat):Prop:=∃ m:List KV,Zaj Tryz.prog 9 w b m/\m.length<=N/\∀ x,Zcg m x=if c x=0 then none else some (.int .i64 (c x))
theorem Zcz.below{w w':World}{B b:Nat}{c:List UInt8->Nat}{N:Nat}(h:Zcz w b c N)(hb:Below B w w')(hlt:b<B):Zcz w' b c N:=by
 obtain⟨m,h1,h2⟩:=h
 exact⟨m,h1.below hb hlt,h2⟩
theorem Zcz.kept{w w':World}{b:Nat}{c:List UInt8->Nat}{N:Nat}{row:Option Nat}(h:Zcz w b c N)(hg:w.grownBy w' row)(hne:some b≠row):Zcz w' b c N:=by
 obtain⟨m,h1,h2⟩:=h
 exact⟨m,h1.kept hg hne,h2⟩
theorem Zcz.get{m:List KV}{c:List UInt8->Nat}(h:∀ x,Zcg m x=if c x=0 then none else some (.int .i64 (c x)))(x:List UInt8):(Zcg m x).getD (.int .i64 0)=.int .i64 (c x):=by
 rw[h]
 by_cases h0:c x=0
 ·rw[if_pos h0,h0];rfl
 ·rw[if_neg h0];rfl
theorem Zhx{m:List KV}{k x:List UInt8}{v:Value}:Zcg (Zp9 m k v) x=if x=k then some v else Zcg m x:=by
 unfold Zcg Zp9
 by_cases h:x=k
 ·subst h;simp
 ·rw[if_neg h,List.find?_cons_of_neg (by simpa using fun e=>h e.symm)]
  congr 1
  exact find_filter_keep (fun p hp=>by
   have:p.1=x:=by simpa using hp
   rw[this]
   simpa using h) m
def Zw3(c:List UInt8->Nat)(k:List UInt8):List UInt8->Nat:=fun x=>if x=k then c k+1 else c x
theorem Zcz.put{m:List KV}{c:List UInt8->Nat}{N:Nat}{w':World}{b:Nat}{k:List UInt8}(hN:m.length<=N)(h:∀ x,Zcg m x=if c x=0 then none else some (.int .i64 (c x)))
 (h':Zaj Tryz.prog 9 w' b (Zp9 m k (.int .i64 ((c k:Int)+1)))):Zcz w' b (Zw3 c k) (N+1):=by
 refine⟨_,h',?_,fun x=>?_⟩
 ·unfold Zp9
  have:=List.length_filter_le (fun p:KV=>p.1 != k) m
  simp only[List.length_cons]
  omega
 ·rw[Zhx]
  unfold Zw3
  by_cases hx:x=k
  ·rw[if_pos hx,if_pos hx,if_neg (by omega)]
   simp
  ·rw[if_neg hx,if_neg hx]
   exact h x
def Zey(l:List M.Pk)(q:KV):List (List UInt8):=match l.find? (fun p=>p.name == q.1) with
 | some p=>p.files.map M.Fl.path
 | none=>[]
theorem Zrt{l:List M.Pk}(ha:M.Apart l){p:M.Pk}(hp:p∈l)(v:Value):Zey l (p.name,v)=p.files.map M.Fl.path:=by
 unfold Zey
 cases h:l.find? (fun q=>q.name == (p.name,v).1) with
 | none=>
  have:=List.find?_eq_none.1 h p hp
  simp at this
 | some q=>
  have h1:=List.find?_some h
  have e:=ha.eq (List.mem_of_find?_eq_some h) hp (by simpa using h1)
  rw[e]
theorem Z6i{l:List M.Pk}(ha:M.Apart l)(f:M.Pk->Value):(l.map fun p=>(p.name,f p)).flatMap (Zey l)=M.Za3 l:=by
 unfold M.Za3
 rw[List.flatMap_map]
 have:∀ k:List M.Pk,(∀ p∈k,p∈l)->k.flatMap (fun p=>Zey l (p.name,f p))=k.flatMap (fun p=>p.files.map M.Fl.path):=by
  intro k
  induction k with
  | nil=>intro _;rfl
  | cons p k ih=>intro h;rw[List.flatMap_cons,List.flatMap_cons,Zrt ha (h p (by simp)),ih (fun q hq=>h q (by simp[hq]))]
 exact this l (fun p hp=>hp)
theorem Zq1{l:List M.Fl}{k:Nat}(hk:k<l.length):(Zaf l)[k*2]? = some (.string ⟨l[k].path.toArray⟩)/\(Zaf l)[k*2+1]? = some (.string ⟨l[k].content.toArray⟩):=by
 rw[Nat.mul_comm]
 exact⟨Zgp hk,Zo5 hk⟩
theorem Z1j(b:Nat)(l:List M.Pk)(w:World)(hl:Zaw w b l)(hn:l.length<=100000)(hs:∀ p∈l,Zbb p):
 Calls Tryz.prog 266 #[.map (some b)] w fun e w'=>∃ ob N,e=.returned (.map (some ob))/\Zcz w' ob (fun x=>(M.Za3 l).count x) N/\N<=1000000000/\Below w.heap.size w w':=by
 have hmm:=@run_makeMap Tryz.prog
 have HA:=hid hl.apart
 have HS:=hid hs
 have hbl:=hl.lt
 obtain⟨f,m1,v1⟩:=hl
 have HTot:Hid ((M.Za3 l).length<=1000000000):=by
  show _<=_
  have:∀ k:List M.Pk,(∀ p∈k,Zbb p)->(M.Za3 k).length<=k.length*1000:=by
   intro k
   induction k with
   | nil=>intro _;simp[M.Za3]
   | cons p k ih=>
    intro h
    have h1:=(h p (by simp)).short.filen
    have h2:=ih (fun q hq=>h q (by simp[hq]))
    unfold M.Za3 at h2 ⊢
    rw[List.flatMap_cons,List.length_append,List.length_map,List.length_cons]
    omega
  have:=this l hs
  omega
 generalize hW1:w.alloc (.map #[] 0)=W1
 have hga:w.grownBy W1 none:=by rw[<-hW1];exact World.grownBy_alloc w _ none
 have s1:W1.heap.size=w.heap.size+1:=by rw[<-hW1];simp
 have hm0:Zaj Tryz.prog 9 W1 w.heap.size []:=by rw[<-hW1];exact Zaj.made w
 have HB1:Hid (Below w.heap.size w W1):=by rw[<-hW1];exact(Below.refl _ w).alloc ler _
 have m1':=m1.kept hga (by simp)
 have HV:=hid v1
 have HSh:Hid (∀ q∈l.map (fun p=>(p.name,f p)),Zgc q.2):=fun q hq=>by
  obtain⟨p,hp,rfl⟩:=List.mem_map.1 hq
  exact(v1 p hp).shape
 have HPA:Hid ((l.map fun p=>(p.name,f p)).flatMap (Zey l)=M.Za3 l):=Z6i HA.out f
 generalize hL:(l.map fun p=>(p.name,f p))=L at m1' HSh HPA
 have HL:=hid hL
 clear v1 hs m1 hga hL
 go_enter Tryz.func266,Tryz.ntmps266
 go_wp2_with (first|(at_range;refine Zch rfl _ rfl Tryz.underlying9 Zem b L rfl m1' ?_;intro w0 hrg0 hg0 hs0)|go_in)
 go_frame
 rw[s1] at hrg0 hs0 ⊢
 have HC0:Hid (Zcz w0 w.heap.size (fun _=>0) 0):=⟨[],hm0.kept hg0 (by simp),Nat.le_refl _,fun x=>rfl⟩
 have hB0:Below w.heap.size w w0:=HB1.out.grown hg0 HB1.out.size (fun j hj=>by cases hj)
 go_loopw [5,7] (fun _ _ wr=>∃ (todo:List KV) (cnt N:Nat) (c:List UInt8->Nat),Za1 Tryz.prog 9 wr b (w.heap.size+1) L todo cnt/\Hid (Zcz wr w.heap.size c N)/\Hid (∀ x,c x+(todo.flatMap (Zey l)).count x=(M.Za3 l).count x)/\Hid (N+(todo.flatMap (Zey l)).length<=(M.Za3 l).length)/\Below w.heap.size w wr) (fun _ _ wr=>wr.rangeLeft b (w.heap.size+1))
 case atStart=>exact⟨L,_,0,fun _=>0,hrg0,HC0,fun x=>by rw[HPA.out];simp,by show _<=_;rw[HPA.out];omega,hB0⟩
 case round=>
  obtain⟨todo,cnt,N,c,hrg,HC,HX,HN,hBr⟩:=hrel
  go_wp2_with (first|(at_next;refine Zek rfl _ rfl Tryz.underlying9 b (w.heap.size+1) L todo cnt rfl hrg HSh.out ?_ ?_)|go_in)
  ·intro hc0 ht0
   have HF:Hid (Zcz wr w.heap.size (fun x=>(M.Za3 l).count x) N):=by
    have e:c=fun x=>(M.Za3 l).count x:=by
     funext x
     have:=HX.out x
     rw[ht0] at this
     simpa using this
    rw[<-e]
    exact HC.out
   have HNl:Hid (N<=1000000000):=by show _<=_;have:=HN.out;have:=HTot.out;omega
   clear hc0 ht0
   go_wp2
   go_ret
   exact⟨_,N,rfl,HF.out,HNl.out,hBr⟩
  ·intro k x y x1 n1 c1 x2 n2 c2 x3 n3 c3 todo' w' cnt' hks hperm hrg' hlt hg' hs' hen
   have hrr:w.heap.size≠w.heap.size+1:=by omega
   have hmem:(k.data.toList,Value.agg #[.string x,.string y,.slice x1 n1 c1,.slice x2 n2 c2,.slice x3 n3 c3])∈L:=by
    obtain⟨_,_,_,_,_,_,_,h4⟩:=hrg
    exact((h4 _).1 (hperm.mem_iff.2 List.mem_cons_self)).1
   obtain⟨p,hp,hpe⟩:∃ p∈l,(p.name,f p)=(k.data.toList,Value.agg #[.string x,.string y,.slice x1 n1 c1,.slice x2 n2 c2,.slice x3 n3 c3]):=by
    rw[<-HL.out] at hmem
    obtain⟨p,hp,e⟩:=List.mem_map.1 hmem
    exact⟨p,hp,e⟩
   have hpn:p.name=k.data.toList:=congrArg Prod.fst hpe
   have hpv:f p=Value.agg #[.string x,.string y,.slice x1 n1 c1,.slice x2 n2 c2,.slice x3 n3 c3]:=congrArg Prod.snd hpe
   have hrow:Zas w 0 w.heap.size (.slice x3 n3 c3) p.files.length (Zaf p.files)/\n3=p.files.length:=by
    obtain⟨nv,bv,fv,e,_,_,h3⟩:=HV.out p hp
    rw[hpv] at e
    simp only[Value.agg.injEq,Array.mk.injEq,List.cons.injEq,and_true] at e
    obtain⟨_,_,_,_,rfl⟩:=e
    obtain⟨_,_,e3⟩:=h3.form
    injection e3 with _ e3 _
    exact⟨h3,e3⟩
   obtain⟨hrow,rfl⟩:=hrow
   have HFR:=hid hrow
   have HPth:Hid (Zey l (k.data.toList,Value.agg #[.string x,.string y,.slice x1 n1 c1,.slice x2 n2 c2,.slice x3 p.files.length c3])=p.files.map M.Fl.path):=by
    show _ = _
    rw[<-hpn]
    exact Zrt HA.out hp _
   have HSp:Hid (Zbb p):=HS.out p hp
   have hfn:=HSp.out.short.filen
   have HX1:Hid (∀ x,c x+((p.files.map M.Fl.path).count x+(todo'.flatMap (Zey l)).count x)=(M.Za3 l).count x):=fun z=>by
    have:=HX.out z
    rw[(hperm.flatMap_right (Zey l)).count_eq z,List.flatMap_cons,List.count_append,HPth.out] at this
    exact this
   have HN1:Hid (N+(p.files.length+(todo'.flatMap (Zey l)).length)<=(M.Za3 l).length):=by
    show _<=_
    have:=HN.out
    rw[(hperm.flatMap_right (Zey l)).length_eq,List.flatMap_cons,List.length_append,HPth.out,List.length_map] at this
    exact this
   have hc':Zcz w' w.heap.size c N:=HC.out.kept hg' (fun e=>hrr (Option.some.inj e))
   have hBw':Below w.heap.size w w':=hBr.grown hg' hBr.size (fun j hj=>by cases hj;omega)
   clear hperm hmem HC HX HN hs' hpe hpv hpn hrow
   generalize hW2:w'.alloc (.cells #[.string x,.string y,.slice x1 n1 c1,.slice x2 n2 c2,.slice x3 p.files.length c3] 108)=W2
   have hga:w'.grownBy W2 none:=by rw[<-hW2];exact World.grownBy_alloc w' _ none
   have HC2:Hid (Zcz W2 w.heap.size c N):=hc'.kept hga (by simp)
   have hrg2:=hrg'.kept hga (by simp) (by simp)
   have q4:W2.cell? ⟨w'.heap.size,4,none⟩=some (.slice x3 p.files.length c3):=by rw[<-hW2];exact Zbk w' [.string x,.string y,.slice x1 n1 c1,.slice x2 n2 c2,.slice x3 p.files.length c3] _ 4 _ rfl
   have hBw2:Below w.heap.size w W2:=hBw'.grown hga hBw'.size (fun j hj=>by cases hj)
   clear hc'
   go_wp2
   go_loopw [7,18] (fun _ i wr=>∃ (j N2:Nat) (c2:List UInt8->Nat),i=.int .i64 j/\j<=p.files.length/\Za1 Tryz.prog 9 wr b (w.heap.size+1) L todo' cnt'/\Hid (Zcz wr w.heap.size c2 N2)/\Hid (∀ x,c2 x=c x+((p.files.take j).map M.Fl.path).count x)/\Hid (N2=N+j)/\Below w.heap.size w wr) (fun _ i _=>p.files.length-(intOf i).toNat)
   case atStart=>exact⟨0,N,c,rfl,Nat.zero_le _,hrg2,HC2,fun x=>by simp,rfl,hBw2⟩
   case round=>
    obtain⟨j,N2,c2,rfl,hj,hrj,HCj,HXj,HNj,hBj⟩:=hrel
    by_cases hlj:j<p.files.length
    ·obtain⟨gf,rfl,hgf,hcapf,hcf⟩:=HFR.out.cellAt (by omega)
     obtain⟨f0,f1⟩:=Zq1 hlj
     obtain⟨Y,hY⟩:∃ Y:ByteArray,Y=⟨p.files[j].path.toArray⟩:=⟨_,rfl⟩
     have q0:wr.cell? ⟨gf,j*2,none⟩=some (.string Y):=by rw[hY];exact(hBj.cell (p:=⟨gf,j*2,none⟩) hgf).trans (hcf _ _ f0)
     have q1:wr.cell? ⟨gf,j*2+1,none⟩=some (.string ⟨p.files[j].content.toArray⟩):=(hBj.cell (p:=⟨gf,j*2+1,none⟩) hgf).trans (hcf _ _ f1)
     have hYd:Y.data.toList=p.files[j].path:=by rw[hY]
     have hYs:Y.size<=maxLen:=by have:=(HSp.out.short.files _ (List.getElem_mem hlj)).1;rw[Zcy hYd];unfold maxLen;omega
     generalize hW3:wr.alloc (.cells #[.string Y,.string ⟨p.files[j].content.toArray⟩] 159)=W3
     have hgb:wr.grownBy W3 none:=by rw[<-hW3];exact World.grownBy_alloc wr _ none
     have r0:W3.cell? ⟨wr.heap.size,0,none⟩=some (.string Y):=by rw[<-hW3];exact Zbk wr [.string Y,.string ⟨p.files[j].content.toArray⟩] _ 0 _ rfl
     have hrj3:=hrj.kept hgb (by simp) (by simp)
     obtain⟨m,hm,hml,hmk⟩:=HCj.out.kept hgb (by simp)
     have hcb:c2 Y.data.toList<=1000000000:=by
      have h1:=HXj.out Y.data.toList
      have h2:=HX1.out Y.data.toList
      have h3:=HTot.out
      have h4:=List.count_le_length (a:=Y.data.toList) (l:=M.Za3 l)
      have h5:((p.files.take j).map M.Fl.path).count Y.data.toList<=(p.files.map M.Fl.path).count Y.data.toList:=List.Sublist.count_le _ ((List.take_sublist j p.files).map _)
      omega
     have hlk:(Instr.lookup 280 (.map (some w.heap.size)) (.string Y) false).run Tryz.prog W3=.ok (.int .i64 (c2 Y.data.toList)) W3:=by
      rw[hm.look Tryz.underlying9 Zib (Zfi W3) hYs,Zcz.get hmk]
     have hw1:IntKind.i64.wrap ((c2 Y.data.toList:Int)+1)=(c2 Y.data.toList:Int)+1:=by rw[IntKind.wrap_i64];omega
     have hmlen:m.length<maxLen:=by
      have h1:=HNj.out
      have h2:=HN1.out
      have h3:=HTot.out
      unfold maxLen
      omega
     have HMk:=hid hmk
     have HX2:Hid (∀ x,Zw3 c2 Y.data.toList x=c x+((p.files.take (j+1)).map M.Fl.path).count x):=fun z=>by
      rw[List.take_succ_eq_append_getElem hlj,List.map_append,List.count_append]
      unfold Zw3
      have h1:=HXj.out z
      by_cases hz:z=Y.data.toList
      ·subst hz
       rw[if_pos rfl,h1]
       simp[hYd]
       omega
      ·rw[if_neg hz,h1]
       have:([p.files[j]].map M.Fl.path).count z=0:=by
        rw[List.count_eq_zero]
        simp
        rw[<-hYd]
        exact hz
       omega
     have HNj2:Hid (N2+1=N+(j+1)):=by show _ = _;rw[HNj.out];omega
     have hBw3:Below w.heap.size w W3:=hBj.grown hgb hBj.size (fun j hj=>by cases hj)
     generalize hcY:c2 Y.data.toList=cy at hlk hcb hw1
     have HcY:=hid hcY
     clear hY hYd f0 f1 hcf hmk hcY HCj
     go_wp2_with (first|(at_mapUpdate;refine Zcx rfl _ _ _ rfl Tryz.underlying9 Zib w.heap.size m rfl hm hmlen Y (.int .i64 ((cy:Int)+1)) rfl hYs rfl ?_;intro w6 hm6 hg6;go_frame)|go_in)
     have HC6:Hid (Zcz w6 w.heap.size (Zw3 c2 Y.data.toList) (N2+1)):=Zcz.put hml HMk.out (by rw[HcY.out];exact hm6)
     have hrj6:=hrj3.kept hg6 (fun e=>by have:=Option.some.inj e;omega) (fun e=>by have:=Option.some.inj e;omega)
     have hB6:Below w.heap.size w w6:=hBw3.grown hg6 hBw3.size (fun j hj=>by cases hj;exact Nat.le_refl _)
     clear hm6 hg6 hm hlk
     go_wp2
     go_roundw
     case rel=>exact⟨j+1,N2+1,_,by go_num,by omega,hrj6,HC6,HX2,HNj2,hB6⟩
     case measure=>simp[intOf];omega
    ·have hjj:j=p.files.length:=by omega
     have HX3:Hid (∀ x,c2 x+(todo'.flatMap (Zey l)).count x=(M.Za3 l).count x):=fun z=>by
      have h1:=HXj.out z
      have h2:=HX1.out z
      rw[hjj,List.take_length] at h1
      omega
     have HN3:Hid (N2+(todo'.flatMap (Zey l)).length<=(M.Za3 l).length):=by
      show _<=_
      have h1:=HNj.out
      have h2:=HN1.out
      omega
     clear hjj
     go_wp2
     go_roundw
     case rel=>exact⟨todo',cnt',N2,c2,hrj,HCj,HX3,HN3,hBj⟩
     case measure=>rw[hrj.left_eq,hrg.left_eq];exact hlt
def Zmn(l:List M.Pk)(q:KV):Nat:=match l.find? (fun p=>p.name == q.1) with
 | some p=>(M.Zaz p).length
 | none=>0
theorem Zvf{l:List M.Pk}(ha:M.Apart l){p:M.Pk}(hp:p∈l)(v:Value):Zmn l (p.name,v)=(M.Zaz p).length:=by
 unfold Zmn
 cases h:l.find? (fun q=>q.name == (p.name,v).1) with
 | none=>
  have:=List.find?_eq_none.1 h p hp
  simp at this
 | some q=>
  have h1:=List.find?_some h
  have e:=ha.eq (List.mem_of_find?_eq_some h) hp (by simpa using h1)
  rw[e]
theorem Z4n{l:List M.Pk}(ha:M.Apart l)(f:M.Pk->Value):((l.map fun p=>(p.name,f p)).map (Zmn l)).sum=M.Zbn l:=by
 unfold M.Zbn
 rw[List.map_map]
 congr 1
 apply List.map_congr_left
 intro p hp
 exact Zvf ha hp _
theorem Zvr(b:Nat)(l:List M.Pk)(w:World)(hl:Zaw w b l)(hs:∀ p∈l,Zbb p)(hz:M.Zbn l<=1000000000):
 Calls Tryz.prog 80 #[.map (some b)] w fun e w'=>e=.returned (.int .i64 (M.Zbn l))/\Below w.heap.size w w':=by
 have HA:=hid hl.apart
 have HS:=hid hs
 have hbl:=hl.lt
 obtain⟨f,m1,v1⟩:=hl
 have HV:=hid v1
 have HSh:Hid (∀ q∈l.map (fun p=>(p.name,f p)),Zgc q.2):=fun q hq=>by
  obtain⟨p,hp,rfl⟩:=List.mem_map.1 hq
  exact(v1 p hp).shape
 have HPA:Hid (((l.map fun p=>(p.name,f p)).map (Zmn l)).sum=M.Zbn l):=Z4n HA.out f
 generalize hL:(l.map fun p=>(p.name,f p))=L at m1 HSh HPA
 have HL:=hid hL
 have HZ:=hid hz
 generalize hSz:M.Zbn l=Z at HPA HZ ⊢
 clear v1 hs hL hz hSz
 go_enter Tryz.func80,Tryz.ntmps80
 go_wp2_with (first|(at_range;refine Zch rfl _ rfl Tryz.underlying9 Zem b L rfl m1 ?_;intro w0 hrg0 hg0 hs0)|go_in)
 go_frame
 have hB0:Below w.heap.size w w0:=(Below.refl _ w).grown hg0 ler (fun j hj=>by cases hj)
 go_loopw [3,5] (fun c _ wr=>∃ (todo:List KV) (cnt N:Nat),c=.int .i64 N/\Za1 Tryz.prog 9 wr b w.heap.size L todo cnt/\Hid (N+(todo.map (Zmn l)).sum=Z)/\Below w.heap.size w wr) (fun _ _ wr=>wr.rangeLeft b w.heap.size)
 case atStart=>exact⟨L,_,0,rfl,hrg0,by show _ = _;rw[HPA.out];omega,hB0⟩
 case round=>
  obtain⟨todo,cnt,N,rfl,hrg,HN,hBr⟩:=hrel
  go_wp2_with (first|(at_next;refine Zek rfl _ rfl Tryz.underlying9 b w.heap.size L todo cnt rfl hrg HSh.out ?_ ?_)|go_in)
  ·intro hc0 ht0
   have HF:Hid (N=Z):=by
    show _ = _
    have:=HN.out
    rw[ht0] at this
    simpa using this
   clear hc0 ht0
   go_wp2
   go_ret
   refine⟨?_,hBr⟩
   rw[<-HF.out]
   rfl
  ·intro k x y x1 n1 c1 x2 n2 c2 x3 n3 c3 todo' w' cnt' hks hperm hrg' hlt hg' hs' hen
   have hmem:(k.data.toList,Value.agg #[.string x,.string y,.slice x1 n1 c1,.slice x2 n2 c2,.slice x3 n3 c3])∈L:=by
    obtain⟨_,_,_,_,_,_,_,h4⟩:=hrg
    exact((h4 _).1 (hperm.mem_iff.2 List.mem_cons_self)).1
   obtain⟨p,hp,hpe⟩:∃ p∈l,(p.name,f p)=(k.data.toList,Value.agg #[.string x,.string y,.slice x1 n1 c1,.slice x2 n2 c2,.slice x3 n3 c3]):=by
    rw[<-HL.out] at hmem
    obtain⟨p,hp,e⟩:=List.mem_map.1 hmem
    exact⟨p,hp,e⟩
   have hpn:p.name=k.data.toList:=congrArg Prod.fst hpe
   have hpv:f p=Value.agg #[.string x,.string y,.slice x1 n1 c1,.slice x2 n2 c2,.slice x3 n3 c3]:=congrArg Prod.snd hpe
   have HN1:Hid (N+(M.Zaz p).length+(todo'.map (Zmn l)).sum=Z):=by
    show _ = _
    have:=HN.out
    rw[(hperm.map (Zmn l)).sum_nat,List.map_cons,List.sum_cons,<-hpn,Zvf HA.out hp] at this
    omega
   have hBw':Below w.heap.size w w':=hBr.grown hg' hBr.size (fun j hj=>by cases hj;omega)
   generalize hW2:w'.alloc (.cells #[.string x,.string y,.slice x1 n1 c1,.slice x2 n2 c2,.slice x3 n3 c3] 108)=W2
   have hga:w'.grownBy W2 none:=by rw[<-hW2];exact World.grownBy_alloc w' _ none
   have hrg2:=hrg'.kept hga (by simp) (by simp)
   have hBw2:Below w.heap.size w W2:=hBw'.grown hga hBw'.size (fun j hj=>by cases hj)
   have hv2:Zc6 W2 p (.agg #[.string x,.string y,.slice x1 n1 c1,.slice x2 n2 c2,.slice x3 n3 c3]):=by
    rw[<-hpv]
    exact(HV.out p hp).below hBw2
   have cO:=Zkg p _ W2 hv2 (HS.out p hp).short
   have hnw:∀ i u,[Value.string x,.string y,.slice x1 n1 c1,.slice x2 n2 c2,.slice x3 n3 c3][i]? = some u->W2.cell? ⟨w'.heap.size,i,none⟩=some u:=fun i u hu=>by rw[<-hW2];exact Zbk w' _ _ i u hu
   have q0:W2.cell? ⟨w'.heap.size,0,none⟩=some (.string x):=hnw 0 _ rfl
   have q1:W2.cell? ⟨w'.heap.size,1,none⟩=some (.string y):=hnw 1 _ rfl
   have q2:W2.cell? ⟨w'.heap.size,2,none⟩=some (.slice x1 n1 c1):=hnw 2 _ rfl
   have q3:W2.cell? ⟨w'.heap.size,3,none⟩=some (.slice x2 n2 c2):=hnw 3 _ rfl
   have q4:W2.cell? ⟨w'.heap.size,4,none⟩=some (.slice x3 n3 c3):=hnw 4 _ rfl
   have hNz:N+(M.Zaz p).length<=1000000000:=by have:=HN1.out;have:=HZ.out;omega
   clear hperm hmem HN hs' hpe hpv hpn hv2 hnw hga
   go_wp2_with fail
   refine cO.mono ?_
   rintro e w3 ⟨T,rfl,hT,hB3⟩
   have hTs:T.size=(M.Zaz p).length:=by rw[<-hT];exact(Zaq T).symm
   have hrg3:=hrg2.below hB3
   have hB4:Below w.heap.size w w3:=bt hBw2 hB3
   have HN2:Hid (N+T.size+(todo'.map (Zmn l)).sum=Z):=by show _ = _;rw[hTs];exact HN1.out
   have hNt:N+T.size<=1000000000:=by rw[hTs];exact hNz
   have hre:w3.rangeLeft b w.heap.size<wr.rangeLeft b w.heap.size:=by rw[hrg3.left_eq,hrg.left_eq];exact hlt
   clear hT hTs hNz HN1 hrg2 hrg' cO q0 q1 q2 q3 q4 hW2 hen hBw2 hB3 hg' hlt
   go_wp2
   refine⟨⟨todo',cnt',N+T.size,by go_num,hrg3,HN2,hB4⟩,hre⟩
end Go.Proofs.YtgnfknjopafngaaGreatDoor
