import Derived.Deep.Heap
import Derived.Test.YtgnfknjopafngabGreatDoorKnaa
set_option maxRecDepth 100000
set_option maxHeartbeats 8000000
namespace Go.Proofs.YtgnfknjopafngabGreatDoor
open Go.RowKit Go.Maps
def cntE(E:List (List UInt8 × List UInt8)):List UInt8->Nat:=fun x=>(E.filter fun e=>e.1 == x).length
def rowE(E:List (List UInt8 × List UInt8)):List UInt8->List (List UInt8):=fun x=>(E.filter fun e=>e.2 == x).map Prod.fst
theorem cntE_snoc(E:List (List UInt8 × List UInt8))(n o:List UInt8):plus1 (cntE E) n=cntE (E++[(n,o)]):=by
 funext x
 unfold plus1 cntE
 by_cases h:x=n
 ·subst h;simp
 ·rw[if_neg h]
  have:(n == x)=false:=by simpa using fun e=>h e.symm
  simp[List.filter_append,this]
theorem rowE_snoc(E:List (List UInt8 × List UInt8))(n o:List UInt8):snocAt (rowE E) o n=rowE (E++[(n,o)]):=by
 funext x
 unfold snocAt rowE
 by_cases h:x=o
 ·subst h;simp
 ·rw[if_neg h]
  have:(o == x)=false:=by simpa using fun e=>h e.symm
  simp[List.filter_append,this]
theorem cntE_le(E:List (List UInt8 × List UInt8))(x:List UInt8):cntE E x<=E.length:=List.length_filter_le _ _
theorem rowE_le(E:List (List UInt8 × List UInt8))(x:List UInt8):(rowE E x).length<=E.length:=by unfold rowE;rw[List.length_map];exact List.length_filter_le _ _
theorem nodup_le{α:Type} [DecidableEq α]:∀ {l k:List α},l.Nodup->(∀ x∈l,x∈k)->l.length<=k.length
 | [],_,_,_=>Nat.zero_le _
 | a :: l,k,h,hs=>by
  have ha:=hs a (by simp)
  have h1:=nodup_le (l:=l) (k:=k.erase a) (List.nodup_cons.1 h).2 (fun x hx=>(List.mem_erase_of_ne (fun (e:x=a)=>(List.nodup_cons.1 h).1 (e ▸ hx))).2 (hs x (by simp[hx])))
  rw[List.length_erase_of_mem ha] at h1
  have h2:=List.length_pos_of_mem ha
  simp only[List.length_cons]
  omega
def WaitE(there fresh:List M.Pk)(e:List UInt8 × List UInt8):Prop:=∃ p∈fresh,∃ q∈fresh,p.name=e.1/\q.name=e.2/\M.waitsS p q there=true
def Queue(w:World)(base wb bb:Nat)(there fresh:List M.Pk)(E:List (List UInt8 × List UInt8)):Prop:=
 CntIn w wb (cntE E) E.length/\RowsIn w base bb (rowE E) E.length/\E.Nodup/\E.length<=1000000000/\∀ e,e∈E↔WaitE there fresh e
theorem RowsIn.base{w:World}{base base' b N:Nat}{B:List UInt8->List (List UInt8)}(h:RowsIn w base b B N)(hb:base'<=base):RowsIn w base' b B N:=by
 obtain⟨m,h1,h2,h3⟩:=h
 refine⟨m,h1,h2,fun x=>?_⟩
 rcases h3 x with h|⟨v,a1,a2,⟨c1,c2⟩,a4⟩
 ·exact .inl h
 ·refine .inr ⟨v,a1,a2,⟨c1,?_⟩,a4⟩
  rcases c2 with h|⟨g,cap,cur,e1,e2,e3⟩
  ·exact .inl h
  ·exact .inr ⟨g,cap,cur,e1,Nat.le_trans hb e2,e3⟩
theorem CntIn.block{w w':World}{b:Nat}{c:List UInt8->Nat}{N:Nat}(h:CntIn w b c N)(hb:w'.heap[b]? = w.heap[b]?):CntIn w' b c N:=by
 obtain⟨m,h1,h2⟩:=h
 exact⟨m,h1.block hb,h2⟩
theorem CntIn.lt{w:World}{b:Nat}{c:List UInt8->Nat}{N:Nat}(h:CntIn w b c N):b<w.heap.size:=h.choose_spec.1.lt
theorem RowsIn.alloc{w w':World}{base b N:Nat}{B:List UInt8->List (List UInt8)}(h:RowsIn w base b B N)(hg:w.grownBy w' none):RowsIn w' base b B N:=h.below ⟨hg.os,hg.tape,hg.output,hg.size,fun k hk=>hg.block k hk (by simp)⟩
theorem RowsIn.blocks{w w':World}{base b j N:Nat}{B:List UInt8->List (List UInt8)}(h:RowsIn w base b B N)(hj:j<base)(hjb:j≠b)(hk:∀ k,k≠j->w'.heap[k]? = w.heap[k]?):RowsIn w' base b B N:=by
 obtain⟨m,h1,h2,h3⟩:=h
 refine⟨m,h1.block (hk b (fun e=>hjb e.symm)),h2,fun x=>?_⟩
 rcases h3 x with h|⟨v,a1,a2,a3,a4⟩
 ·exact .inl h
 ·refine .inr ⟨v,a1,a2,own_block a3 (fun g hg=>hk g ?_),a4⟩
  obtain⟨g',_,_,_,_,hb,e⟩:=own_cells a3 (List.length_pos_iff.2 a2)
  obtain rfl:g'=g:=Option.some.inj (e.symm.trans hg)
  omega
def Lain(n:Nat)(w w':World):Prop:=(∀ k,k<n+4->k≠n+1->k≠n+2->w'.heap[k]? = w.heap[k]?)/\w'.os=w.os/\w'.tape=w.tape/\w'.output=w.output/\w.heap.size<=w'.heap.size
theorem Lain.step{n k:Nat}{w w1 w2:World}(h:Lain n w w1)(hw:n+4<=w.heap.size)(hg:w1.grownBy w2 (some k))(hk:n+4<=k\/k=n+1\/k=n+2):Lain n w w2:=by
 obtain⟨h1,h2,h3,h4,h5⟩:=h
 refine⟨fun j hj ha hb=>(hg.block j (by omega) (fun e=>?_)).trans (h1 j hj ha hb),hg.os.trans h2,hg.tape.trans h3,hg.output.trans h4,Nat.le_trans h5 hg.size⟩
 have:=Option.some.inj e
 omega
theorem Lain.more{n:Nat}{w w1 w2:World}(h:Lain n w w1)(hw:n+4<=w.heap.size)(hg:Below w1.heap.size w1 w2):Lain n w w2:=by
 obtain⟨h1,h2,h3,h4,h5⟩:=h
 exact⟨fun j hj ha hb=>(hg.block j (by omega)).trans (h1 j hj ha hb),hg.os.trans h2,hg.tape.trans h3,hg.output.trans h4,Nat.le_trans h5 hg.size⟩
theorem grown_none{w w':World}(hg:w.grownBy w' none):Below w.heap.size w w':=⟨hg.os,hg.tape,hg.output,hg.size,fun k hk=>hg.block k hk (by simp)⟩
theorem Lain.cell{n:Nat}{w w1:World}(h:Lain n w w1){k o:Nat}(h1:k<n+4)(h2:k≠n+1)(h3:k≠n+2):w1.cell? ⟨k,o,none⟩=w.cell? ⟨k,o,none⟩:=World.cell?_of_block (h.1 k h1 h2 h3)
theorem qline_any(bi ba:Nat)(there fresh:List M.Pk)(w:World)(hi:SetIn w bi there)(hf:SetIn w ba fresh)(hn:fresh.length<=10000)(hst:∀ q∈there,ReadP q)(hsf:∀ q∈fresh,ReadP q):
 Calls Tryz.prog 180 #[.map (some bi),.map (some ba)] w fun e w'=>∃ wb bb E,e=.returned (.agg #[.map (some wb),.map (some bb)])/\Queue w' w.heap.size wb bb there fresh E/\wb≠bb/\w.heap.size<=wb/\w.heap.size<=bb/\Below w.heap.size w w':=by
 have hmm:=@run_makeMap Tryz.prog
 have HA:=hid hf.apart
 have HST:=hid hst
 have HSF:=hid hsf
 have HI:=hid hi
 have HF:=hid hf
 have hbl:=hf.lt
 obtain⟨f,m1,v1⟩:=hf
 generalize hA0:w.alloc (.cells #[.map none,.map none] 280)=A0
 have g0:w.grownBy A0 none:=by rw[<-hA0];exact World.grownBy_alloc w _ none
 have s0:A0.heap.size=w.heap.size+1:=by rw[<-hA0];simp
 have z0:A0.cell? ⟨w.heap.size,0,none⟩=some (.map none):=by rw[<-hA0];exact new_at w [.map none,.map none] _ 0 _ rfl
 have z1:A0.cell? ⟨w.heap.size,1,none⟩=some (.map none):=by rw[<-hA0];exact new_at w [.map none,.map none] _ 1 _ rfl
 generalize hA1:A0.alloc (.map #[] 0)=A1
 have g1:A0.grownBy A1 none:=by rw[<-hA1];exact World.grownBy_alloc A0 _ none
 have s1:A1.heap.size=w.heap.size+2:=by rw[<-hA1];simp[s0]
 have mA1:StrMap Tryz.prog 9 A1 (w.heap.size+1) []:=by rw[<-hA1,<-s0];exact StrMap.made A0
 generalize hA2:A1.alloc (.map #[] 0)=A2
 have g2:A1.grownBy A2 none:=by rw[<-hA2];exact World.grownBy_alloc A1 _ none
 have s2:A2.heap.size=w.heap.size+3:=by rw[<-hA2];simp[s1]
 have mA2:StrMap Tryz.prog 9 A2 (w.heap.size+2) []:=by rw[<-hA2,<-s1];exact StrMap.made A1
 generalize hA3:A2.alloc (.cells #[.map (some (w.heap.size+1)),.map (some (w.heap.size+2))] 280)=A3
 have g3:A2.grownBy A3 none:=by rw[<-hA3];exact World.grownBy_alloc A2 _ none
 have s3:A3.heap.size=w.heap.size+4:=by rw[<-hA3];simp[s2]
 have y0:A3.cell? ⟨w.heap.size+3,0,none⟩=some (.map (some (w.heap.size+1))):=by rw[<-hA3,<-s2];exact new_at A2 [.map (some (w.heap.size+1)),.map (some (w.heap.size+2))] _ 0 _ rfl
 have y1:A3.cell? ⟨w.heap.size+3,1,none⟩=some (.map (some (w.heap.size+2))):=by rw[<-hA3,<-s2];exact new_at A2 [.map (some (w.heap.size+1)),.map (some (w.heap.size+2))] _ 1 _ rfl
 have B3:Below A0.heap.size A0 A3:=bt (bt (grown_none g1) (grown_none g2)) (grown_none g3)
 have HB3:Hid (Below w.heap.size w A3):=bt (grown_none g0) B3
 have z0':=(B3.cell (p:=⟨w.heap.size,0,none⟩) (by show w.heap.size < _;omega)).trans z0
 have z1':=(B3.cell (p:=⟨w.heap.size,1,none⟩) (by show w.heap.size < _;omega)).trans z1
 have fz0:∀ o,A0.frozen? ⟨w.heap.size,o,none⟩=false:=fun o=>by rw[<-hA0];exact(newB w [.map none,.map none] 280 0).2.2.2 o
 have HFz:Hid (∀ o,A3.frozen? ⟨w.heap.size,o,none⟩=false):=fun o=>(B3.frozen (p:=⟨w.heap.size,o,none⟩) (by show w.heap.size < _;omega)).trans (fz0 o)
 have HZ:Hid (A3.cell? ⟨w.heap.size,0,none⟩=some (.map none)/\A3.cell? ⟨w.heap.size,1,none⟩=some (.map none)/\A3.cell? ⟨w.heap.size+3,0,none⟩=some (.map (some (w.heap.size+1)))/\A3.cell? ⟨w.heap.size+3,1,none⟩=some (.map (some (w.heap.size+2)))):=⟨z0',z1',y0,y1⟩
 have hm1':StrMap Tryz.prog 9 A3 (w.heap.size+1) []:=(mA1.kept g2 (by simp)).kept g3 (by simp)
 have hm2':StrMap Tryz.prog 9 A3 (w.heap.size+2) []:=mA2.kept g3 (by simp)
 have HC3:Hid (CntIn A3 (w.heap.size+1) (cntE []) 0):=⟨[],hm1',Nat.le_refl _,fun x=>rfl⟩
 have HR3:Hid (RowsIn A3 (w.heap.size+4) (w.heap.size+2) (rowE []) 0):=⟨[],hm2',Nat.le_refl _,fun x=>.inl ⟨rfl,rfl⟩⟩
 have m1':StrMap Tryz.prog 9 A3 ba _:=m1.below HB3.out hbl
 have HV:=hid v1
 have HSh:Hid (∀ q∈fresh.map (fun p=>(p.name,f p)),PkShape q.2):=fun q hq=>by
  obtain⟨p,hp,rfl⟩:=List.mem_map.1 hq
  exact(v1 p hp).shape
 have HLn:Hid ((fresh.map fun p=>(p.name,f p)).map Prod.fst=fresh.map M.Pk.name):=by show _ = _;rw[List.map_map];rfl
 have HLl:Hid ((fresh.map fun p=>(p.name,f p)).length=fresh.length):=List.length_map _
 generalize hL:(fresh.map fun p=>(p.name,f p))=L at m1' HSh HLn HLl
 have HL:=hid hL
 have HS3:=hid s3
 clear fz0 hi hst hsf v1 m1 hL g0 g1 g2 g3 z0 z1 z0' z1' y0 y1 mA1 mA2 hm1' hm2' B3
 go_enter Tryz.func180,Tryz.ntmps180
 go_wp2_with (first|(at_range;refine wpList_range_str rfl _ rfl Tryz.underlying9 setMap ba L rfl m1' ?_;intro w0 hrg0 hg0 hs0)|go_in)
 go_frame
 rw[s3] at hrg0 hs0 ⊢
 clear s0 s1 s2 hA0 hA1 hA2 hA3 m1'
 have HC0:Hid (CntIn w0 (w.heap.size+1) (cntE []) 0):=HC3.out.kept hg0 (by simp)
 have HR0:Hid (RowsIn w0 (w.heap.size+4) (w.heap.size+2) (rowE []) 0):=HR3.out.alloc hg0
 have HLa0:Hid (Lain w.heap.size A3 w0):=⟨fun k hk _ _=>hg0.block k (by omega) (by simp),hg0.os,hg0.tape,hg0.output,hg0.size⟩
 have HE0:Hid (∀ e,e∈([]:List (List UInt8 × List UInt8))↔WaitE there fresh e/\e.1 ∉ L.map Prod.fst):=fun e=>by
  constructor
  ·intro h;cases h
  ·rintro ⟨⟨p,hp,_,_,e1,_⟩,h⟩
   exact absurd (by rw[HLn.out,<-e1];exact List.mem_map.2 ⟨p,hp,rfl⟩) h
 clear hg0 s3
 go_loopw [6,7,8] (fun _ _ _ wr=>∃ (todo:List KV) (cnt:Nat) (E:List (List UInt8 × List UInt8)),Ranging Tryz.prog 9 wr ba (w.heap.size+4) L todo cnt/\Hid (CntIn wr (w.heap.size+1) (cntE E) E.length)/\Hid (RowsIn wr (w.heap.size+4) (w.heap.size+2) (rowE E) E.length)/\Hid E.Nodup/\Hid (∀ e,e∈E↔WaitE there fresh e/\e.1 ∉ todo.map Prod.fst)/\Hid (E.length+todo.length*10000<=fresh.length*10000)/\Hid (Lain w.heap.size A3 wr)) (fun _ _ _ wr=>wr.rangeLeft ba (w.heap.size+4))
 case atStart=>exact⟨L,_,[],hrg0,HC0,HR0,List.nodup_nil,HE0,by show _<=_;rw[HLl.out];simp,HLa0⟩
 case round=>
  obtain⟨todo,cnt,E,hrg,HC,HR,HD,HE,HN,HLa⟩:=hrel
  have hLc:=fun k o (h1:k<w.heap.size+4) h2 h3=>HLa.out.cell (k:=k) (o:=o) h1 h2 h3
  have hszr:w.heap.size+4<wr.heap.size:=hrg.lt.1
  go_wp2_with (first|(at_next;refine wpList_next_pk rfl _ rfl Tryz.underlying9 ba (w.heap.size+4) L todo cnt rfl hrg HSh.out ?_ ?_)|go_in)
  ·intro hc0 ht0
   have HEF:Hid (∀ e,e∈E↔WaitE there fresh e):=fun e=>by
    have:=HE.out e
    rw[ht0] at this
    simpa using this
   have HNF:Hid (E.length<=1000000000):=by show _<=_;have:=HN.out;omega
   clear hc0 ht0
   have q0:=(hLc w.heap.size 0 (by omega) (by omega) (by omega)).trans HZ.out.1
   have q1:=(hLc w.heap.size 1 (by omega) (by omega) (by omega)).trans HZ.out.2.1
   have q2:=(hLc (w.heap.size+3) 0 (by omega) (by omega) (by omega)).trans HZ.out.2.2.1
   have q3:=(hLc (w.heap.size+3) 1 (by omega) (by omega) (by omega)).trans HZ.out.2.2.2
   have qf:∀ o,wr.frozen? ⟨w.heap.size,o,none⟩=false:=fun o=>(World.frozen?_of_block (HLa.out.1 w.heap.size (by omega) (by omega) (by omega))).trans (HFz.out o)
   clear hLc
   go_wp2
   obtain⟨k0,k1⟩:=set2 wr w.heap.size (.map (some (w.heap.size+1))) (.map (some (w.heap.size+2))) _ _ q0 q1
   refine bodyPost_ret (v:=.agg #[.map (some (w.heap.size+1)),.map (some (w.heap.size+2))]) ?_ rfl ?_
   ·simp[results,Tryz.results180,go_sem,k0,k1]
   refine⟨_,_,E,rfl,⟨?_,?_,HD.out,HNF.out,HEF.out⟩,by omega,by omega,by omega,?_⟩
   ·exact HC.out.block (by rw[Below.heap_setCell _ _ _ _ (by simp),Below.heap_setCell _ _ _ _ (by simp)])
   ·exact(HR.out.blocks (j:=w.heap.size) (by omega) (by omega) (fun k hk=>by rw[Below.heap_setCell _ _ _ _ hk,Below.heap_setCell _ _ _ _ hk])).base (by omega)
   ·have hb:Below w.heap.size w wr:=⟨HLa.out.2.1.trans HB3.out.os,HLa.out.2.2.1.trans HB3.out.tape,HLa.out.2.2.2.1.trans HB3.out.output,by have:=HS3.out;omega,fun k hk=>(HLa.out.1 k (by omega) (by omega) (by omega)).trans (HB3.out.block k hk)⟩
    exact(hb.setCell ler _).setCell ler _
  ·intro k x y x1 n1 c1 x2 n2 c2 x3 n3 c3 todo' w' cnt' hks hperm hrg' hlt hg' hs' hen
   have hmem:(k.data.toList,Value.agg #[.string x,.string y,.slice x1 n1 c1,.slice x2 n2 c2,.slice x3 n3 c3])∈L:=by
    obtain⟨_,_,_,_,_,_,_,h4⟩:=hrg
    exact((h4 _).1 (hperm.mem_iff.2 List.mem_cons_self)).1
   obtain⟨p,hp,hpe⟩:∃ p∈fresh,(p.name,f p)=(k.data.toList,Value.agg #[.string x,.string y,.slice x1 n1 c1,.slice x2 n2 c2,.slice x3 n3 c3]):=by
    rw[<-HL.out] at hmem
    obtain⟨p,hp,e⟩:=List.mem_map.1 hmem
    exact⟨p,hp,e⟩
   have hpn:p.name=k.data.toList:=congrArg Prod.fst hpe
   have hpv:f p=Value.agg #[.string x,.string y,.slice x1 n1 c1,.slice x2 n2 c2,.slice x3 n3 c3]:=congrArg Prod.snd hpe
   have HPv:Hid (PkVal w p (.agg #[.string x,.string y,.slice x1 n1 c1,.slice x2 n2 c2,.slice x3 n3 c3])):=by
    show PkVal _ _ _
    rw[<-hpv]
    exact HV.out p hp
   have HPn:Hid (p.name=k.data.toList/\p∈fresh):=⟨hpn,hp⟩
   have HT:Hid (k.data.toList ∉ todo'.map Prod.fst):=by
    have hk:Keys todo:=by obtain⟨_,_,_,_,_,_,h,_⟩:=hrg;exact h
    have:=hk.perm hperm
    unfold Keys at this
    rw[List.map_cons,List.nodup_cons] at this
    exact this.1
   have HTm:Hid (∀ z,z∈todo.map Prod.fst↔z=k.data.toList\/z∈todo'.map Prod.fst):=fun z=>by
    rw[(hperm.map Prod.fst).mem_iff,List.map_cons,List.mem_cons]
   have HTl:Hid (todo.length=todo'.length+1):=by show _ = _;rw[hperm.length_eq,List.length_cons]
   have hBw':Lain w.heap.size A3 w':=HLa.out.step (by have:=HS3.out;omega) hg' (.inl ler)
   have HC':Hid (CntIn w' (w.heap.size+1) (cntE E) E.length):=HC.out.kept hg' (fun e=>by have:=Option.some.inj e;omega)
   have HR':Hid (RowsIn w' (w.heap.size+4) (w.heap.size+2) (rowE E) E.length):=HR.out.kept hg' (by omega) (iter_no_cells hrg)
   have HLt:Hid (cnt'<cnt/\wr.rangeLeft ba (w.heap.size+4)=cnt):=⟨hlt,hrg.left_eq⟩
   have hszw:w.heap.size+4<w'.heap.size:=by omega
   clear hperm hmem HC HR hpe hpv hpn hp hrg hLc HLa hlt hs' hszr
   generalize hW2:w'.alloc (.cells #[.string x,.string y,.slice x1 n1 c1,.slice x2 n2 c2,.slice x3 n3 c3] 87)=W2
   have hga:w'.grownBy W2 none:=by rw[<-hW2];exact World.grownBy_alloc w' _ none
   have s2:W2.heap.size=w'.heap.size+1:=by rw[<-hW2];simp
   have hcl:=fun j u hj=>(show W2.cell? ⟨w'.heap.size,j,none⟩=some u by rw[<-hW2];exact new_at w' [.string x,.string y,.slice x1 n1 c1,.slice x2 n2 c2,.slice x3 n3 c3] _ j u hj)
   have q0:=hcl 0 _ rfl
   have q1:=hcl 1 _ rfl
   have q2:=hcl 2 _ rfl
   have q3:=hcl 3 _ rfl
   have q4:=hcl 4 _ rfl
   have hLa2:Lain w.heap.size A3 W2:=hBw'.more (by have:=HS3.out;omega) (grown_none hga)
   have HLa2:=hid hLa2
   have HC2:Hid (CntIn W2 (w.heap.size+1) (cntE E) E.length):=HC'.out.kept hga (by simp)
   have HR2:Hid (RowsIn W2 (w.heap.size+4) (w.heap.size+2) (rowE E) E.length):=HR'.out.alloc hga
   have HG2:Hid (Ranging Tryz.prog 9 W2 ba (w.heap.size+4) L todo' cnt'):=hrg'.kept hga (by simp) (by simp)
   have hBW2:Below w.heap.size w W2:=⟨hLa2.2.1.trans HB3.out.os,hLa2.2.2.1.trans HB3.out.tape,hLa2.2.2.2.1.trans HB3.out.output,by omega,fun k hk=>(hLa2.1 k (by omega) (by omega) (by omega)).trans (HB3.out.block k hk)⟩
   have cA:=awaited_any p _ bi ba there fresh W2 (HPv.out.below hBW2) (HI.out.below hBW2) (HF.out.below hBW2) (HSF.out p HPn.out.2) HST.out HSF.out
   clear hcl hBw' HC' HR' hga hrg' hLa2 hBW2
   go_wp2_with (first|(go_at_call 236;refine cA.mono ?_;rintro e w3 ⟨ob,m,rfl,hm3,hk3,hml3,hB3,hob3⟩)|(at_range;refine wpList_range_str rfl _ rfl Tryz.underlying9 setMap ob m rfl hm3 ?_;intro w4 hrg4 hg4 hs4)|go_in)
   go_frame
   have hobl:ob<w3.heap.size:=hm3.lt
   have hs3:=hB3.size
   have HLa4:Hid (Lain w.heap.size A3 w4):=(HLa2.out.more (by have:=HS3.out;omega) hB3).more (by have:=HS3.out;omega) (grown_none hg4)
   have HC4:Hid (CntIn w4 (w.heap.size+1) (cntE E) E.length):=(HC2.out.below hB3 HC2.out.lt).kept hg4 (by simp)
   have HR4:Hid (RowsIn w4 (w.heap.size+4) (w.heap.size+2) (rowE E) E.length):=(HR2.out.below hB3).alloc hg4
   have HG4:Hid (Ranging Tryz.prog 9 w4 ba (w.heap.size+4) L todo' cnt'):=(HG2.out.below hB3).kept hg4 (by simp) (by simp)
   have HK:=hid hm3.keys
   have HKs:Hid (∀ x,x∈m.map Prod.fst↔∃ q∈fresh,q.name=x/\M.waitsS p q there=true):=fun x=>by
    refine Iff.trans ?_ (hk3 x)
    rw[Option.isSome_iff_exists,List.mem_map]
    constructor
    ·rintro ⟨q,hq,rfl⟩
     exact⟨q.2,(look_mem hm3.keys).2 hq⟩
    ·rintro ⟨v,hv⟩
     exact⟨(x,v),(look_mem hm3.keys).1 hv,rfl⟩
   have HMl:Hid (m.length<=fresh.length):=by
    show _<=_
    have:=nodup_le (k:=fresh.map M.Pk.name) HK.out (fun x hx=>by
     obtain⟨q,hq,e,_⟩:=(HKs.out x).1 hx
     exact List.mem_map.2 ⟨q,hq,e⟩)
    rwa [List.length_map,List.length_map] at this
   have hOb:w.heap.size+4<ob/\ob<w3.heap.size:=⟨by omega,hobl⟩
   obtain⟨r2,hr2⟩:∃ r2,r2=w3.heap.size:=⟨_,rfl⟩
   rw[<-hr2] at hrg4 hOb ⊢
   clear q0 q1 q2 q3 q4 hm3 hk3 hB3 hg4 hs4 hobl cA HC2 HR2 HG2 HLa2 hob3 hs3 hml3 s2 hW2 hr2
   go_loopw [8] (fun _ wr=>∃ (todo2:List KV) (cnt2:Nat) (E2:List (List UInt8 × List UInt8)),Ranging Tryz.prog 9 wr ob r2 m todo2 cnt2/\Hid (Ranging Tryz.prog 9 wr ba (w.heap.size+4) L todo' cnt')/\Hid (CntIn wr (w.heap.size+1) (cntE E2) E2.length)/\Hid (RowsIn wr (w.heap.size+4) (w.heap.size+2) (rowE E2) E2.length)/\Hid E2.Nodup/\Hid (∀ e,e∈E2↔e∈E\/(e.1=k.data.toList/\e.2∈m.map Prod.fst/\e.2 ∉ todo2.map Prod.fst))/\Hid (E2.length+todo2.length=E.length+m.length)/\Hid (Lain w.heap.size A3 wr)) (fun _ wr=>wr.rangeLeft ob r2)
   case atStart=>
    refine⟨m,_,E,hrg4,HG4,HC4,HR4,HD,fun e=>?_,rfl,HLa4⟩
    constructor
    ·exact .inl
    ·rintro (h|⟨_,h1,h2⟩)
     ·exact h
     ·exact absurd h1 h2
   case round=>
    obtain⟨todo2,cnt2,E2,hrg2,HGj,HCj,HRj,HDj,HEj,HNj,HLj⟩:=hrel
    go_wp2_with (first|(at_next;refine wpList_next_str rfl _ rfl Tryz.underlying9 ob r2 m todo2 cnt2 rfl hrg2 ?_ ?_)|go_in)
    ·intro hc0 ht0
     have HE':Hid (∀ e,e∈E2↔WaitE there fresh e/\e.1 ∉ todo'.map Prod.fst):=fun e=>by
      rw[HEj.out e,ht0,HE.out e]
      have hT:=HTm.out e.1
      constructor
      ·rintro (⟨h1,h2⟩|⟨h1,h2,_⟩)
       ·exact⟨h1,fun h=>h2 (hT.2 (.inr h))⟩
       ·obtain⟨q,hq,e1,e2⟩:=(HKs.out e.2).1 h2
        exact⟨⟨p,HPn.out.2,q,hq,HPn.out.1.trans h1.symm,e1,e2⟩,by rw[h1];exact HT.out⟩
      ·rintro ⟨h1,h2⟩
       by_cases hk:e.1=k.data.toList
       ·refine .inr ⟨hk,?_,by simp⟩
        obtain⟨p2,hp2,q,hq,e1,e2,e3⟩:=h1
        have:p2=p:=HA.out.eq hp2 HPn.out.2 (by rw[e1,hk,HPn.out.1])
        subst this
        exact(HKs.out e.2).2 ⟨q,hq,e2,e3⟩
       ·refine .inl ⟨h1,fun h=>?_⟩
        rcases hT.1 h with h|h
        ·exact hk h
        ·exact h2 h
     have HN':Hid (E2.length+todo'.length*10000<=fresh.length*10000):=by
      show _<=_
      have h1:=HNj.out
      have h2:=HN.out
      have h3:=HTl.out
      have h4:=HMl.out
      rw[ht0] at h1
      simp at h1
      omega
     clear hc0 ht0
     go_wp2
     go_roundw
     case rel=>exact⟨todo',cnt',E2,HGj.out,HCj,HRj,HDj,HE',HN',HLj⟩
     case measure=>rw[HGj.out.left_eq,HLt.out.2];exact HLt.out.1
    ·intro s v todo3 w5 cnt3 hss hperm2 hrg5 hlt2 hg5 hs5 hen5
     have hne:r2≠w.heap.size+1/\r2≠w.heap.size+2/\r2≠ba/\r2≠w.heap.size+4/\ob≠w.heap.size+1/\ob≠w.heap.size+2:=by omega
     have HNe:=hid hne
     have HL5:Hid (Lain w.heap.size A3 w5):=HLj.out.step (by have:=HS3.out;omega) hg5 (.inl (by omega))
     have HC5:Hid (CntIn w5 (w.heap.size+1) (cntE E2) E2.length):=HCj.out.kept hg5 (fun e=>hne.1 (Option.some.inj e).symm)
     have HR5:Hid (RowsIn w5 (w.heap.size+4) (w.heap.size+2) (rowE E2) E2.length):=HRj.out.kept hg5 hne.2.1 (iter_no_cells hrg2)
     have HG5:Hid (Ranging Tryz.prog 9 w5 ba (w.heap.size+4) L todo' cnt'):=HGj.out.kept hg5 (fun e=>hne.2.2.1 (Option.some.inj e).symm) (fun e=>hne.2.2.2.1 (Option.some.inj e).symm)
     have HRg5:=hid hrg5
     have HSm:Hid (s.data.toList∈m.map Prod.fst/\s.data.toList ∉ todo3.map Prod.fst/\(∀ z,z∈todo2.map Prod.fst↔z=s.data.toList\/z∈todo3.map Prod.fst)/\todo2.length=todo3.length+1):=by
      obtain⟨_,_,_,_,_,_,hk,h4⟩:=hrg2
      have h1:=hk.perm hperm2
      unfold Keys at h1
      rw[List.map_cons,List.nodup_cons] at h1
      refine⟨List.mem_map.2 ⟨_,((h4 _).1 (hperm2.mem_iff.2 List.mem_cons_self)).1,rfl⟩,h1.1,fun z=>?_,by rw[hperm2.length_eq,List.length_cons]⟩
      rw[(hperm2.map Prod.fst).mem_iff,List.map_cons,List.mem_cons]
     have HLt2:Hid (cnt3<cnt2/\wr.rangeLeft ob r2=cnt2):=⟨hlt2,hrg2.left_eq⟩
     have p2:=(HL5.out.cell (k:=w.heap.size+3) (o:=0) (by omega) (by omega) (by omega)).trans HZ.out.2.2.1
     obtain⟨mc,hm,hml,hmk⟩:=HC5.out
     have hEl:E2.length<=200000000:=by
      have h1:=HNj.out
      have h2:=HN.out
      have h3:=HMl.out
      omega
     have hcb:=cntE_le E2 k.data.toList
     have hlk:(Instr.lookup 277 (.map (some (w.heap.size+1))) (.string k) false).run Tryz.prog w5=.ok (.int .i64 (cntE E2 k.data.toList)) w5:=by
      rw[hm.look Tryz.underlying9 cntMap (zeroInt_run w5) hks,CntIn.get hmk]
     have hw1:IntKind.i64.wrap ((cntE E2 k.data.toList:Int)+1)=(cntE E2 k.data.toList:Int)+1:=by rw[IntKind.wrap_i64];omega
     have hmlen:mc.length<maxLen:=by unfold maxLen;omega
     have HMk:=hid hmk
     generalize hcY:cntE E2 k.data.toList=cy at hlk hcb hw1
     have HcY:=hid hcY
     clear hcY hmk hperm2 hrg2 hrg5 hlt2 hg5 hs5 HCj HRj HGj HLj HC5 hne
     go_wp2_with (first|(at_mapUpdate;refine wpList_put_str rfl _ _ _ rfl Tryz.underlying9 cntMap (w.heap.size+1) mc rfl hm hmlen k (.int .i64 ((cy:Int)+1)) rfl hks rfl ?_;intro w6 hm6 hg6;go_frame)|go_in)
     have HC6:Hid (CntIn w6 (w.heap.size+1) (cntE (E2++[(k.data.toList,s.data.toList)])) (E2.length+1)):=by
      rw[<-cntE_snoc]
      exact CntIn.put hml HMk.out (by rw[HcY.out];exact hm6)
     have hne:=HNe.out
     have hlr:=HRg5.out.lt
     have hlg:=HG5.out.lt
     have HR6:Hid (RowsIn w6.drew (w.heap.size+4) (w.heap.size+2) (rowE E2) E2.length):=(HR5.out.kept hg6 (by omega) (map_no_cells hm)).below (below_same w6 1)
     have HG6:Hid (Ranging Tryz.prog 9 w6 ba (w.heap.size+4) L todo' cnt'):=HG5.out.kept hg6 (fun e=>by have:=Option.some.inj e;omega) (fun e=>by have:=Option.some.inj e;omega)
     have HRg6:Hid (Ranging Tryz.prog 9 w6 ob r2 m todo3 cnt3):=HRg5.out.kept hg6 (fun e=>by have:=Option.some.inj e;omega) (fun e=>by have:=Option.some.inj e;omega)
     have HL6:Hid (Lain w.heap.size A3 w6):=HL5.out.step (by have:=HS3.out;omega) hg6 (.inr (.inl rfl))
     have p3:=(HL6.out.cell (k:=w.heap.size+3) (o:=1) (by omega) (by omega) (by omega)).trans HZ.out.2.2.2
     have h6s:=hg6.size
     obtain⟨v7,v8,w8,w9,hlook,hlook2,⟨ao,no,co,rfl⟩,⟨ao2,no2,co2,rfl⟩,happ,hput,hR9,hk1,hk2,hsz9,hos9,htp9,hou9,hk8⟩:=HR6.out.append s k 41 hss (by omega) (by have:=rowE_le E2 s.data.toList;omega) (by show _<=w6.heap.size;omega)
     change ∀ k,k<w6.heap.size->k≠w.heap.size+2->(∀ cur fz,w6.heap[k]?≠some (.cells cur 9 fz))->w9.heap[k]? = w6.heap[k]? at hk1
     change ∀ k,k<w.heap.size+4->k≠w.heap.size+2->w9.heap[k]? = w6.heap[k]? at hk2
     change w6.heap.size<=_ at hsz9
     change ∀ k,k<w.heap.size+4->w8.heap[k]? = w6.heap[k]? at hk8
     have p8:w8.cell? ⟨w.heap.size+3,1,none⟩=some (.map (some (w.heap.size+2))):=(World.cell?_of_block (hk8 (w.heap.size+3) (by omega))).trans p3
     have p7:(w6.alloc (.cells #[.string k] 9)).cell? ⟨w.heap.size+3,1,none⟩=some (.map (some (w.heap.size+2))):=(((Below.refl _ w6).alloc ler _).cell (p:=⟨w.heap.size+3,1,none⟩) (by show w.heap.size+3<w6.heap.size;omega)).trans p3
     have h6r:=HRg6.out.lt
     have h6g:=HG6.out.lt
     have HG9:Hid (Ranging Tryz.prog 9 w9 ba (w.heap.size+4) L todo' cnt'):=HG6.out.blocks (hk2 ba (by omega) (by omega)) (hk1 _ (by omega) (by omega) (fun cur fz=>iter_no_cells HG6.out _ _ _))
     have HRg9:Hid (Ranging Tryz.prog 9 w9 ob r2 m todo3 cnt3):=HRg6.out.blocks (hk1 _ (by omega) (by omega) (fun cur fz=>map_no_cells HRg6.out.map _ _ _)) (hk1 _ (by omega) (by omega) (fun cur fz=>iter_no_cells HRg6.out _ _ _))
     have HL9:Hid (Lain w.heap.size A3 w9):=by
      obtain⟨l1,l2,l3,l4,l5⟩:=HL6.out
      exact⟨fun j hj ha hb=>(hk2 j hj hb).trans (l1 j hj ha hb),hos9.trans l2,htp9.trans l3,hou9.trans l4,Nat.le_trans l5 hsz9⟩
     have HC9:Hid (CntIn w9 (w.heap.size+1) (cntE (E2++[(k.data.toList,s.data.toList)])) (E2++[(k.data.toList,s.data.toList)]).length):=by
      rw[List.length_append]
      exact HC6.out.block (hk2 _ (by omega) (by omega))
     have HR9:Hid (RowsIn w9 (w.heap.size+4) (w.heap.size+2) (rowE (E2++[(k.data.toList,s.data.toList)])) (E2++[(k.data.toList,s.data.toList)]).length):=by
      rw[List.length_append,<-rowE_snoc]
      exact hR9
     have HD9:Hid (E2++[(k.data.toList,s.data.toList)]).Nodup:=by
      refine(List.perm_append_singleton _ _).nodup_iff.2 (List.nodup_cons.2 ⟨fun h=>?_,HDj.out⟩)
      rcases(HEj.out _).1 h with h|⟨_,_,h⟩
      ·exact((HE.out _).1 h).2 ((HTm.out _).2 (.inl rfl))
      ·exact h ((HSm.out.2.2.1 _).2 (.inl rfl))
     have HE9:Hid (∀ e,e∈E2++[(k.data.toList,s.data.toList)]↔e∈E\/(e.1=k.data.toList/\e.2∈m.map Prod.fst/\e.2 ∉ todo3.map Prod.fst)):=fun e=>by
      have hT:=HSm.out.2.2.1 e.2
      rw[List.mem_append,HEj.out e,List.mem_singleton]
      constructor
      ·rintro ((h|⟨h1,h2,h3⟩)|rfl)
       ·exact .inl h
       ·exact .inr ⟨h1,h2,fun h=>h3 (hT.2 (.inr h))⟩
       ·exact .inr ⟨rfl,HSm.out.1,HSm.out.2.1⟩
      ·rintro (h|⟨h1,h2,h3⟩)
       ·exact .inl (.inl h)
       ·by_cases he:e.2=s.data.toList
        ·exact .inr (Prod.ext h1 he)
        ·refine .inl (.inr ⟨h1,h2,fun h=>?_⟩)
         rcases hT.1 h with h|h
         ·exact he h
         ·exact h3 h
     have HN9:Hid ((E2++[(k.data.toList,s.data.toList)]).length+todo3.length=E.length+m.length):=by
      show _ = _
      have h1:=HNj.out
      have h2:=HSm.out.2.2.2
      rw[List.length_append,List.length_singleton]
      omega
     have HM9:Hid (w9.rangeLeft ob r2=cnt3):=HRg9.out.left_eq
     change (Instr.lookup 278 (.map (some (w.heap.size+2))) (.string s) false).run Tryz.prog (w6.alloc (.cells #[.string k] 9)).drew=.ok (.slice ao no co) (w6.alloc (.cells #[.string k] 9)).drew at hlook2
     change (Builtin.append_ #[41,41] 41 #[.slice ao no co,.slice (some ⟨w6.heap.size,0,none⟩) 1 1]).run Tryz.prog (w6.alloc (.cells #[.string k] 9)).drew = _ at happ
     have HApp:=hid happ
     clear happ hk8 hk1 hk2 hsz9 hos9 htp9 hou9 h6r h6g h6s hne hlr hlg hg6 hm6 hm hlk hw1 hmlen hR9 p2 hcb hEl hml
     go_wp2
     go_region_law (refine step_append_eq rfl (.tmp 39) (.tmp 41) 41 rfl _ _ _ _ (by simp[Act.eval]) (by simp[Act.eval]) HApp.out ?_)
     all_goals
      go_wp2
      go_roundw
      case rel=>exact⟨todo3,cnt3,E2++[(k.data.toList,s.data.toList)],HRg9.out,HG9,HC9,HR9,HD9,HE9,HN9,HL9⟩
      case measure=>rw[HM9.out,HLt2.out.2];exact HLt2.out.1
end Go.Proofs.YtgnfknjopafngabGreatDoor
