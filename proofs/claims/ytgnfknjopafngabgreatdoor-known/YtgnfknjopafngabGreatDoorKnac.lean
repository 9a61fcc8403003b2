import Derived.Test.YtgnfknjopafngabGreatDoorKnab
import Derived.Lib.SliceRun
import Derived.Shelf.Spec.SearchS
import Derived.Shelf.Spec.SlicesInsert
import Derived.Shelf.Spec.SlicesInsertGrow
set_option maxRecDepth 100000
set_option maxHeartbeats 8000000
namespace Go.Proofs.YtgnfknjopafngabGreatDoor
open Go.RowKit Go.Maps
def CntAt(w:World)(b:Nat)(c:List UInt8->Nat)(N:Nat):Prop:=∃ m:List KV,StrMap Tryz.prog 9 w b m/\m.length<=N/\∀ x,(lookK m x).getD (.int .i64 0)=.int .i64 (c x)
theorem CntIn.at{w:World}{b:Nat}{c:List UInt8->Nat}{N:Nat}(h:CntIn w b c N):CntAt w b c N:=by
 obtain⟨m,h1,h2,h3⟩:=h
 exact⟨m,h1,h2,CntIn.get h3⟩
theorem CntAt.below{w w':World}{B b:Nat}{c:List UInt8->Nat}{N:Nat}(h:CntAt w b c N)(hb:Below B w w')(hlt:b<B):CntAt w' b c N:=by
 obtain⟨m,h1,h2⟩:=h
 exact⟨m,h1.below hb hlt,h2⟩
theorem CntAt.kept{w w':World}{b:Nat}{c:List UInt8->Nat}{N:Nat}{row:Option Nat}(h:CntAt w b c N)(hg:w.grownBy w' row)(hne:some b≠row):CntAt w' b c N:=by
 obtain⟨m,h1,h2⟩:=h
 exact⟨m,h1.kept hg hne,h2⟩
theorem CntAt.lt{w:World}{b:Nat}{c:List UInt8->Nat}{N:Nat}(h:CntAt w b c N):b<w.heap.size:=h.choose_spec.1.lt
theorem CntAt.no_cells{w:World}{b:Nat}{c:List UInt8->Nat}{N:Nat}(h:CntAt w b c N):∀ cur e fz,w.heap[b]?≠some (.cells cur e fz):=map_no_cells h.choose_spec.1
theorem len_put{m:List KV}{k:List UInt8}{v u:Value}(hk:Keys m)(h:lookK m k=some u):(putK m k v).length=m.length:=by
 have:=(perm_take hk ((look_mem hk).1 h)).length_eq
 unfold putK
 rw[List.length_cons] at this ⊢
 exact this.symm
theorem isWaiting_any(wb bb:Nat)(c:List UInt8->Nat)(N:Nat)(X:ByteArray)(w:World)(hc:CntAt w wb c N)(hX:X.size<=maxLen):
 Calls Tryz.prog 183 #[.agg #[.map (some wb),.map (some bb)],.string X] w fun e w'=>e=.returned (.bool (decide (0<c X.data.toList)))/\Below w.heap.size w w':=by
 generalize hA0:w.alloc (.cells #[.map (some wb),.map (some bb)] 280)=A0
 have g0:w.grownBy A0 none:=by rw[<-hA0];exact World.grownBy_alloc w _ none
 have z0:A0.cell? ⟨w.heap.size,0,none⟩=some (.map (some wb)):=by rw[<-hA0];exact new_at w [.map (some wb),.map (some bb)] _ 0 _ rfl
 obtain⟨m,hm,hml,hmk⟩:=hc.kept g0 (by simp)
 have hlk:(Instr.lookup 277 (.map (some wb)) (.string X) false).run Tryz.prog A0=.ok (.int .i64 (c X.data.toList)) A0:=by
  rw[hm.look Tryz.underlying9 cntMap (zeroInt_run A0) hX,hmk]
 have HB:Hid (Below w.heap.size w A0):=grown_none g0
 generalize hcy:c X.data.toList=cy at hlk ⊢
 have HD:Hid (decide ((cy:Int) > 0)=decide (0<cy)):=by show _ = _;congr 1;simp
 clear hm hmk hml hcy g0
 go_enter Tryz.func183,Tryz.ntmps183
 go_wp2
 go_ret
 refine⟨?_,HB.out⟩
 congr 2
def less1(c:List UInt8->Nat)(xs:List (List UInt8)):List UInt8->Nat:=fun x=>if x∈xs then c x-1 else c x
def freedS(c:List UInt8->Nat)(xs:List (List UInt8)):List (List UInt8):=xs.filter fun x=>c x == 1
theorem grown_then{A B C:World}{row:Option Nat}{wb:Nat}(h:A.grownBy B (some wb))(k:B.grownBy C row)(hr:∀ j,row=some j->j=wb\/A.heap.size<=j):A.grownBy C (some wb):=
 ⟨k.os.trans h.os,k.tape.trans h.tape,k.output.trans h.output,Nat.le_trans h.size k.size,fun j hj hne=>(k.block j (Nat.lt_of_lt_of_le hj h.size) (fun e=>by
  rcases hr j e.symm with e1|e1
  ·exact hne (by rw[e1])
  ·omega)).trans (h.block j hj hne)⟩
theorem grown_below{A B C:World}{wb:Nat}(h:A.grownBy B (some wb))(k:Below B.heap.size B C):A.grownBy C (some wb):=
 ⟨k.os.trans h.os,k.tape.trans h.tape,k.output.trans h.output,Nat.le_trans h.size k.size,fun j hj hne=>(k.block j (Nat.lt_of_lt_of_le hj h.size)).trans (h.block j hj hne)⟩
theorem below_grown{A B C:World}{wb:Nat}(k:Below A.heap.size A B)(h:B.grownBy C (some wb)):A.grownBy C (some wb):=
 ⟨h.os.trans k.os,h.tape.trans k.tape,h.output.trans k.output,Nat.le_trans k.size h.size,fun j hj hne=>(h.block j (Nat.lt_of_lt_of_le hj k.size) hne).trans (k.block j hj)⟩
theorem RowsIn.look{w:World}{base b N:Nat}{B:List UInt8->List (List UInt8)}(h:RowsIn w base b B N){O:ByteArray}(hO:O.size<=maxLen):
 ∃ v,(Instr.lookup 278 (.map (some b)) (.string O) false).run Tryz.prog w=.ok v w/\w.ownsRow base 9 1 v (B O.data.toList).length (nmCells (B O.data.toList)):=by
 obtain⟨m,h1,h2,h3⟩:=h
 have hlook:=h1.look Tryz.underlying9 rowsMap (zeroRow_run w) hO
 rcases h3 O.data.toList with ⟨a1,a2⟩|⟨v,a1,a2,a3,a4⟩
 ·rw[a1] at hlook
  refine⟨_,hlook,?_⟩
  rw[a2]
  exact⟨rfl,.inl ⟨rfl,rfl⟩⟩
 ·rw[a1] at hlook
  exact⟨v,hlook,a3⟩
theorem CntAt.less{m:List KV}{c:List UInt8->Nat}{N:Nat}{w w':World}{b:Nat}{k:List UInt8}(hm:StrMap Tryz.prog 9 w b m)(hN:m.length<=N)(h:∀ x,(lookK m x).getD (.int .i64 0)=.int .i64 (c x))(hk:1<=c k)
 (h':StrMap Tryz.prog 9 w' b (putK m k (.int .i64 ((c k:Int)-1)))):CntAt w' b (fun x=>if x=k then c k-1 else c x) N:=by
 have hs:∃ u,lookK m k=some u:=by
  have h1:=h k
  cases hl:lookK m k with
  | none=>
   rw[hl] at h1
   simp only[Option.getD_none,Value.int.injEq,true_and] at h1
   omega
  | some u=>exact⟨u,rfl⟩
 obtain⟨u,hu⟩:=hs
 refine⟨_,h',by rw[len_put hm.keys hu];exact hN,fun x=>?_⟩
 rw[look_put]
 show (if x=k then some (Value.int .i64 ((c k:Int)-1)) else lookK m x).getD (.int .i64 0)=Value.int .i64 ((if x=k then c k-1 else c x:Nat):Int)
 by_cases hx:x=k
 ·rw[if_pos hx,if_pos hx]
  simp only[Option.getD_some,Value.int.injEq,true_and]
  omega
 ·rw[if_neg hx,if_neg hx]
  exact h x
theorem less1_take{c:List UInt8->Nat}{xs:List (List UInt8)}(hn:xs.Nodup){j:Nat}(hj:j<xs.length):(fun x=>if x=xs[j] then less1 c (xs.take j) xs[j]-1 else less1 c (xs.take j) x)=less1 c (xs.take (j+1))/\less1 c (xs.take j) xs[j]=c xs[j]/\less1 c (xs.take (j+1)) xs[j]=c xs[j]-1:=by
 have hnm:xs[j] ∉ xs.take j:=fun h=>by
  obtain⟨i,hi,e⟩:=List.getElem_of_mem h
  rw[List.getElem_take] at e
  rw[List.length_take] at hi
  have:=(List.getElem_inj hn).1 e
  omega
 have h1:less1 c (xs.take j) xs[j]=c xs[j]:=by unfold less1;rw[if_neg hnm]
 have h2:less1 c (xs.take (j+1)) xs[j]=c xs[j]-1:=by unfold less1;rw[if_pos (by rw[List.take_succ_eq_append_getElem hj];exact List.mem_append.2 (.inr (List.mem_singleton.2 rfl)))]
 refine⟨?_,h1,h2⟩
 funext x
 by_cases hx:x=xs[j]
 ·subst hx
  rw[if_pos rfl,h1,h2]
 ·rw[if_neg hx]
  unfold less1
  rw[List.take_succ_eq_append_getElem hj]
  simp only[List.mem_append,List.mem_singleton,hx,or_false]
theorem freed_take{c:List UInt8->Nat}{xs:List (List UInt8)}{j:Nat}(hj:j<xs.length):freedS c (xs.take (j+1))=freedS c (xs.take j)++(if c xs[j]=1 then [xs[j]] else []):=by
 unfold freedS
 rw[List.take_succ_eq_append_getElem hj,List.filter_append]
 by_cases h:c xs[j]=1 <;> simp[h]
theorem setUp_any(wb bb base N N2:Nat)(c:List UInt8->Nat)(B:List UInt8->List (List UInt8))(X:ByteArray)(w:World)(hc:CntAt w wb c N)(hr:RowsIn w base bb B N2)(hX:X.size<=maxLen)(hnd:(B X.data.toList).Nodup)
 (hx:∀ x∈B X.data.toList,1<=c x/\c x<=1000000000/\x.length<=100000) (hN:N<=1000000000) (hl:(B X.data.toList).length<=1000000000):
 Calls Tryz.prog 184 #[.agg #[.map (some wb),.map (some bb)],.string X] w fun e w'=>∃ v,e=.returned v/\w'.ownsRow w.heap.size 9 1 v (freedS c (B X.data.toList)).length (nmCells (freedS c (B X.data.toList)))/\
  CntAt w' wb (less1 c (B X.data.toList)) N/\w.grownBy w' (some wb):=by
 obtain⟨i0,hi0,hz0,hz1,hz2⟩:=info_parts infoStr
 have hwb:=hc.lt
 generalize hA0:w.alloc (.cells #[.map (some wb),.map (some bb)] 280)=A0
 have g0:w.grownBy A0 none:=by rw[<-hA0];exact World.grownBy_alloc w _ none
 have s0:A0.heap.size=w.heap.size+1:=by rw[<-hA0];simp
 have z0:A0.cell? ⟨w.heap.size,0,none⟩=some (.map (some wb)):=by rw[<-hA0];exact new_at w [.map (some wb),.map (some bb)] _ 0 _ rfl
 have z1:A0.cell? ⟨w.heap.size,1,none⟩=some (.map (some bb)):=by rw[<-hA0];exact new_at w [.map (some wb),.map (some bb)] _ 1 _ rfl
 have HC0:Hid (CntAt A0 wb c N):=hc.kept g0 (by simp)
 obtain⟨v,hlook,hrow⟩:=(hr.alloc g0).look hX
 generalize hxs:B X.data.toList=xs at hrow hnd hx hl ⊢
 obtain⟨a,cap,rfl⟩:∃ a cap,v=.slice a xs.length cap:=(RowIn.own hrow).form
 have HRow:Hid (∀ j (hj:j<xs.length),∃ g,a=some ⟨g,0,none⟩/\g<A0.heap.size/\g≠wb/\xs.length<=cap/\A0.cell? ⟨g,j,none⟩=some (strV xs[j])):=fun j hj=>by
  obtain⟨g,cap',cur,e,hcc,_,_⟩:=own_cells hrow (by omega)
  injection e with e1 e2 e3
  subst e1 e3
  refine⟨g,rfl,(Array.getElem?_eq_some_iff.1 hcc).1,fun e=>?_,?_,?_⟩
  ·subst e
   exact HC0.out.no_cells _ _ _ hcc
  ·obtain⟨_,⟨h,_⟩|⟨g2,cap2,cur2,h,_,_,h2,_⟩⟩:=hrow
   ·cases h
   ·injection h with _ _ h
    rw[h]
    exact h2
  ·rw[hrow.cellAt j (by omega)]
   simp[nmCells,hj]
 have HB0:Hid (Below w.heap.size w A0):=grown_none g0
 have HZ:Hid (A0.cell? ⟨w.heap.size,0,none⟩=some (.map (some wb))/\A0.cell? ⟨w.heap.size,1,none⟩=some (.map (some bb))):=⟨z0,z1⟩
 have HX:=hid hx
 have HND:=hid hnd
 have HS0:=hid s0
 clear g0 hrow hr hc hx hnd hxs s0
 go_enter Tryz.func184,Tryz.ntmps184
 go_wp2
 clear hA0 z0 z1 hlook
 go_loopw [5,7,13] (fun u _ i wr=>∃ j:Nat,i=.int .i64 j/\j<=xs.length/\wr.ownsRow (w.heap.size+1) 9 1 u (freedS c (xs.take j)).length (nmCells (freedS c (xs.take j)))/\Hid (CntAt wr wb (less1 c (xs.take j)) N)/\Hid (A0.grownBy wr (some wb))) (fun _ _ i _=>xs.length-(intOf i).toNat)
 case atStart=>
  refine⟨0,rfl,Nat.zero_le _,World.ownsRow_nil _ _ _ _,?_,⟨rfl,rfl,rfl,Nat.le_refl _,fun _ _ _=>rfl⟩⟩
  have e:less1 c (xs.take 0)=c:=by funext x;simp[less1]
  rw[e]
  exact HC0
 case round=>
  obtain⟨j,rfl,hj,hown,HCj,HGj⟩:=hrel
  by_cases hlt:j<xs.length
  ·obtain⟨g,rfl,hg,hgne,hcap,hcell⟩:=HRow.out j hlt
   obtain⟨Y,hY⟩:∃ Y:ByteArray,Y=⟨xs[j].toArray⟩:=⟨_,rfl⟩
   have hYd:Y.data.toList=xs[j]:=by rw[hY]
   have hx:=HX.out _ (List.getElem_mem hlt)
   have hYs:Y.size<=maxLen:=by rw[size_of hYd];unfold maxLen;omega
   have hkb:=fun k o (h1:k<A0.heap.size) (h2:k≠wb)=>World.cell?_of_block (a:=⟨k,o,none⟩) (HGj.out.block k h1 (fun e=>h2 (Option.some.inj e)))
   have q0:wr.cell? ⟨g,j,none⟩=some (.string Y):=by rw[hY];exact(hkb g j hg hgne).trans hcell
   have hs0:=HS0.out
   have z0:=(hkb w.heap.size 0 (by omega) (by omega)).trans HZ.out.1
   have z1:=(hkb w.heap.size 1 (by omega) (by omega)).trans HZ.out.2
   obtain⟨t1,t2,t3⟩:=less1_take (c:=c) HND.out hlt
   obtain⟨mc,hm,hml,hmk⟩:=HCj.out
   have hlk:(Instr.lookup 277 (.map (some wb)) (.string Y) false).run Tryz.prog wr=.ok (.int .i64 (c xs[j])) wr:=by
    rw[hm.look Tryz.underlying9 cntMap (zeroInt_run wr) hYs,hmk,hYd,t2]
   have hmlen:mc.length<maxLen:=by unfold maxLen;omega
   have HPut:Hid (∀ w6,StrMap Tryz.prog 9 w6 wb (putK mc Y.data.toList (.int .i64 ((c xs[j]:Int)-1)))->CntAt w6 wb (less1 c (xs.take (j+1))) N):=fun w6 h6=>by
    have:=CntAt.less (k:=xs[j]) (w':=w6) hm hml hmk (by rw[t2];omega) (by rw[hYd] at h6;rw[t2];exact h6)
    rw[t1] at this
    exact this
   have HT3:Hid (less1 c (xs.take (j+1)) Y.data.toList=c xs[j]-1):=by show _ = _;rw[hYd];exact t3
   have HFr:Hid (freedS c (xs.take (j+1))=freedS c (xs.take j)++(if c xs[j]=1 then [xs[j]] else [])):=freed_take hlt
   have HYd:=hid hYd
   generalize hcy:c xs[j]=cy at hlk hx HPut HT3 HFr
   have hw1:IntKind.i64.wrap ((cy:Int)-1)=(cy:Int)-1:=by rw[IntKind.wrap_i64];omega
   have cI:=fun w6 (h6:CntAt w6 wb (less1 c (xs.take (j+1))) N)=>isWaiting_any wb bb _ N Y w6 h6 hYs
   have hgs:=HGj.out.size
   have hfl:(freedS c (xs.take j)).length<=xs.length:=by
    have h1:=List.length_filter_le (fun x=>c x == 1) (xs.take j)
    unfold freedS
    rw[List.length_take] at h1
    omega
   clear hY hYd hkb hcell hmk t1 t2 t3 hml hcy HCj
   by_cases h1:cy=1
   ·have hd:decide (0<cy-1)=false:=by simp;omega
    have HF2:Hid (freedS c (xs.take (j+1))=freedS c (xs.take j)++[Y.data.toList]):=by show _ = _;rw[HFr.out,if_pos h1,HYd.out]
    clear h1
    go_wp2_with (first
     | (at_mapUpdate;refine wpList_put_str rfl _ _ _ rfl Tryz.underlying9 cntMap wb mc rfl hm hmlen Y (.int .i64 ((cy:Int)-1)) rfl hYs rfl ?_;intro w6 hm6 hg6;have hc6:=HPut.out w6 hm6;have HG6:Hid (A0.grownBy w6 (some wb)):=grown_then HGj.out hg6 (fun k hk=>.inl (Option.some.inj hk).symm);have y0:=(World.cell?_of_block (a:=⟨w.heap.size,0,none⟩) (hg6.block w.heap.size (by omega) (fun e=>by have:=Option.some.inj e;omega))).trans z0;have y1:=(World.cell?_of_block (a:=⟨w.heap.size,1,none⟩) (hg6.block w.heap.size (by omega) (fun e=>by have:=Option.some.inj e;omega))).trans z1;have hown6:w6.ownsRow (w.heap.size+1) 9 1 u5 (freedS c (xs.take j)).length (nmCells (freedS c (xs.take j))):=hown.kept hg6 (.inr (fun e=>by have:=hown.lt _ e;omega));have c6:=cI w6 hc6;rw[HT3.out,hd] at c6;have h6s:=hg6.size;clear hm6 hg6 hm hlk z0 z1 hown cI;go_frame)
     | (go_at_call 183;refine c6.mono ?_;rintro e w7 ⟨rfl,hB7⟩;have hown7:=own_below hown6 hB7;have HC7:Hid (CntAt w7 wb (less1 c (xs.take (j+1))) N):=hc6.below hB7 hc6.lt;have HG7:Hid (A0.grownBy w7 (some wb)):=grown_below HG6.out hB7;have h7s:wr.heap.size<=w7.heap.size:=Nat.le_trans h6s hB7.size;clear hown6 hB7 hc6 c6)
     | (at_builtin;refine wpList_append_own _ rfl _ _ 41 rfl (w.heap.size+1) 9 i0 (.string ⟨#[]⟩) 1 16 Tryz.underlying41 hi0 hz0 hz1 hz2 rfl (by decide) _ _ _ rfl (hown7.alloc _) ⟨w7.heap.size,0,none⟩ 1 1 [.string Y] rfl rfl ?c1 ?c2 ?c3 ?c4 ?c5 ?_)
     | go_in)
    case c1=>exact one_new _ _ _
    case c2=>intro u hu;simp at hu;subst hu;rfl
    case c3=>unfold maxLen;omega
    case c4=>omega
    case c5=>simp;omega
    intro v' w8 hown8 hgrow _
    have R1:w8.ownsRow (w.heap.size+1) 9 1 v' (freedS c (xs.take (j+1))).length (nmCells (freedS c (xs.take (j+1)))):=by
     rw[HF2.out]
     have e:nmCells (freedS c (xs.take j)++[Y.data.toList])=nmCells (freedS c (xs.take j))++[.string Y]:=by simp[nmCells,strV]
     rw[e,List.length_append]
     exact hown8
    have HC8:Hid (CntAt w8 wb (less1 c (xs.take (j+1))) N):=by
     have h1:=HC7.out.kept (World.grownBy_alloc w7 (.cells #[.string Y] 9) none) (by simp)
     exact h1.kept hgrow (fun e=>by have:=(hown7.alloc (.cells #[.string Y] 9)).lt _ e.symm;omega)
    have HG8:Hid (A0.grownBy w8 (some wb)):=by
     have h1:=grown_then HG7.out (World.grownBy_alloc w7 (.cells #[.string Y] 9) none) (fun k hk=>by cases hk)
     exact grown_then h1 hgrow (fun k hk=>.inr (by have:=(hown7.alloc (.cells #[.string Y] 9)).lt _ hk;omega))
    clear hown8 hgrow hown7
    go_wp2
    go_roundw
    case rel=>exact⟨j+1,by go_num,by omega,R1,HC8,HG8⟩
    case measure=>simp[intOf];omega
   ·have hd:decide (0<cy-1)=true:=by simp;omega
    have HF2:Hid (freedS c (xs.take (j+1))=freedS c (xs.take j)):=by show _ = _;rw[HFr.out,if_neg h1,List.append_nil]
    clear h1
    go_wp2_with (first
     | (at_mapUpdate;refine wpList_put_str rfl _ _ _ rfl Tryz.underlying9 cntMap wb mc rfl hm hmlen Y (.int .i64 ((cy:Int)-1)) rfl hYs rfl ?_;intro w6 hm6 hg6;have hc6:=HPut.out w6 hm6;have HG6:Hid (A0.grownBy w6 (some wb)):=grown_then HGj.out hg6 (fun k hk=>.inl (Option.some.inj hk).symm);have y0:=(World.cell?_of_block (a:=⟨w.heap.size,0,none⟩) (hg6.block w.heap.size (by omega) (fun e=>by have:=Option.some.inj e;omega))).trans z0;have y1:=(World.cell?_of_block (a:=⟨w.heap.size,1,none⟩) (hg6.block w.heap.size (by omega) (fun e=>by have:=Option.some.inj e;omega))).trans z1;have hown6:w6.ownsRow (w.heap.size+1) 9 1 u5 (freedS c (xs.take j)).length (nmCells (freedS c (xs.take j))):=hown.kept hg6 (.inr (fun e=>by have:=hown.lt _ e;omega));have c6:=cI w6 hc6;rw[HT3.out,hd] at c6;have h6s:=hg6.size;clear hm6 hg6 hm hlk z0 z1 hown cI;go_frame)
     | (go_at_call 183;refine c6.mono ?_;rintro e w7 ⟨rfl,hB7⟩;have hown7:=own_below hown6 hB7;have HC7:Hid (CntAt w7 wb (less1 c (xs.take (j+1))) N):=hc6.below hB7 hc6.lt;have HG7:Hid (A0.grownBy w7 (some wb)):=grown_below HG6.out hB7;have h7s:wr.heap.size<=w7.heap.size:=Nat.le_trans h6s hB7.size;clear hown6 hB7 hc6 c6)
     | go_in)
    rw[<-HF2.out] at hown7
    go_roundw
    case rel=>exact⟨j+1,by go_num,by omega,hown7,HC7,HG7⟩
    case measure=>simp[intOf];omega
  ·have hjj:j=xs.length:=by omega
   have HF:Hid (wr.ownsRow w.heap.size 9 1 u5 (freedS c xs).length (nmCells (freedS c xs))/\CntAt wr wb (less1 c xs) N/\w.grownBy wr (some wb)):=by
    have h1:=HCj.out
    rw[hjj,List.take_length] at hown h1
    exact⟨ownsRow_base_a hown (by omega),h1,below_grown HB0.out HGj.out⟩
   clear hjj hown HCj HGj
   go_wp2
   go_ret
   exact⟨_,rfl,HF.out⟩
theorem strs_cells{xs:List (List UInt8)}{j:Nat}(hj:j<xs.length):(nmCells xs)[j]? = some (.string ⟨xs[j].toArray⟩):=by simp[nmCells,hj,strV]
theorem indexW_any(wb bb N:Nat)(c:List UInt8->Nat)(v:Value)(xs:List (List UInt8))(w:World)(hc:CntAt w wb c N)(hv:RowIn w 0 w.heap.size v xs.length (nmCells xs))(hx:∀ x∈xs,x.length<=100000)(hl:xs.length<=1000000000):
 Calls Tryz.prog 187 #[v,.func (.func 183) #[.agg #[.map (some wb),.map (some bb)]] #[]] w fun e w'=>
  ((e=.returned (.int .i64 (-1))/\∀ x∈xs,c x=0)\/(∃ j,∃ hj:j<xs.length,e=.returned (.int .i64 j)/\0<c xs[j]/\∀ k (hk:k<j),c xs[k]=0))/\Below w.heap.size w w':=by
 obtain⟨a,cap,rfl⟩:=hv.form
 have HV:=hid hv
 have HC:=hid hc
 have HX:=hid hx
 clear hv hc hx
 go_enter Tryz.func187,Tryz.ntmps187
 go_wp2
 go_loopw [5,8] (fun _ i wr=>∃ j:Nat,i=.int .i64 j/\j<=xs.length/\Below w.heap.size w wr/\Hid (∀ k (hk:k<xs.length),k<j->c xs[k]=0)) (fun _ i _=>xs.length-(intOf i).toNat)
 case atStart=>exact⟨0,rfl,Nat.zero_le _,Below.refl _ _,fun k hk h=>absurd h (Nat.not_lt_zero _)⟩
 case round=>
  obtain⟨j,rfl,hj,hB,HZ⟩:=hrel
  by_cases hlt:j<xs.length
  ·obtain⟨g,rfl,hg,hcap,hcf⟩:=HV.out.cellAt (by omega)
   obtain⟨Y,hY⟩:∃ Y:ByteArray,Y=⟨xs[j].toArray⟩:=⟨_,rfl⟩
   have hYd:Y.data.toList=xs[j]:=by rw[hY]
   have hYs:Y.size<=maxLen:=by rw[size_of hYd];have:=HX.out _ (List.getElem_mem hlt);unfold maxLen;omega
   have q0:wr.cell? ⟨g,j,none⟩=some (.string Y):=by rw[hY];exact(hB.cell (p:=⟨g,j,none⟩) hg).trans (hcf _ _ (strs_cells hlt))
   have cW:=isWaiting_any wb bb c N Y wr (HC.out.below hB HC.out.lt) hYs
   rw[hYd] at cW
   clear hY hYd hYs hcf
   by_cases h0:0<c xs[j]
   ·have hd:decide (0<c xs[j])=true:=by simpa using h0
    rw[hd] at cW
    have HP:Hid (0<c xs[j]/\∀ k (hk:k<j),c xs[k]=0):=⟨h0,fun k hk=>HZ.out k (by omega) hk⟩
    clear hd h0 HZ
    go_wp2_with (first|(go_at_call 183;refine cW.mono ?_;rintro e w7 ⟨rfl,hB7⟩)|go_in)
    go_ret
    exact⟨.inr ⟨j,hlt,rfl,HP.out.1,HP.out.2⟩,bt hB hB7⟩
   ·have hd:decide (0<c xs[j])=false:=by simpa using h0
    rw[hd] at cW
    have HZ2:Hid (∀ k (hk:k<xs.length),k<j+1->c xs[k]=0):=fun k hk h=>by
     by_cases hkj:k<j
     ·exact HZ.out k hk hkj
     ·have:k=j:=by omega
      subst this
      omega
    clear hd h0
    go_wp2_with (first|(go_at_call 183;refine cW.mono ?_;rintro e w7 ⟨rfl,hB7⟩)|go_in)
    go_roundw
    case rel=>exact⟨j+1,by go_num,by omega,bt hB hB7,HZ2⟩
    case measure=>simp[intOf];omega
  ·have HF:Hid (∀ x∈xs,c x=0):=fun x hx=>by
    obtain⟨k,hk,rfl⟩:=List.getElem_of_mem hx
    exact HZ.out k hk (by omega)
   go_wp2
   go_ret
   exact⟨.inl ⟨rfl,HF.out⟩,hB⟩
def freeS(c:List UInt8->Nat)(xs:List (List UInt8)):List (List UInt8):=xs.filter fun x=>c x == 0
theorem free_take{c:List UInt8->Nat}{xs:List (List UInt8)}{j:Nat}(hj:j<xs.length):freeS c (xs.take (j+1))=freeS c (xs.take j)++(if c xs[j]=0 then [xs[j]] else []):=by
 unfold freeS
 rw[List.take_succ_eq_append_getElem hj,List.filter_append]
 by_cases h:c xs[j]=0 <;> simp[h]
theorem free_all{c:List UInt8->Nat}{xs:List (List UInt8)}(h:∀ x∈xs,c x=0):freeS c xs=xs:=by
 unfold freeS
 rw[List.filter_eq_self]
 intro x hx
 simpa using h x hx
theorem own_setCells{base e n cap g:Nat}:∀ (vs:List Value) (o:Nat) (w:World) (ys:List Value),w.ownsRow base e 1 (.slice (some ⟨g,0,none⟩) n cap) n ys->
 ∃ ys',(w.setCells g o vs).ownsRow base e 1 (.slice (some ⟨g,0,none⟩) n cap) n ys'/\ys'.take o=ys.take o/\w.grownBy (w.setCells g o vs) (some g)
 | [],_,w,ys,h=>⟨ys,h,rfl,⟨rfl,rfl,rfl,Nat.le_refl _,fun _ _ _=>rfl⟩⟩
 | v :: r,o,w,ys,h=>by
  obtain⟨h1,h2⟩:=h.stored o v
  obtain⟨ys',a,b,c⟩:=own_setCells r (o+1) _ _ h1
  refine⟨ys',a,?_,grown_then h2 c (fun k hk=>.inl (Option.some.inj hk).symm)⟩
  have:=congrArg (List.take o) b
  rw[List.take_take,List.take_take,Nat.min_eq_left (by omega)] at this
  rw[this,List.take_set_of_le (by omega)]
theorem own_cut{w:World}{base e n cap g i:Nat}{ys:List Value}(h:w.ownsRow base e 1 (.slice (some ⟨g,0,none⟩) n cap) n ys)(hi:i<=n):w.ownsRow base e 1 (.slice (some ⟨g,0,none⟩) i cap) i (ys.take i):=by
 obtain⟨h1,⟨h,_⟩|⟨g',cap',cur,h,hb,hg,hnc,hcm,hcs,ht⟩⟩:=h
 ·cases h
 ·injection h with e1 _ e3
  injection e1 with e1
  injection e1 with e1
  subst e1 e3
  refine⟨by rw[List.length_take];omega,.inr ⟨g,cap,cur,rfl,hb,hg,by omega,hcm,hcs,?_⟩⟩
  rw[<-ht,List.take_take,Nat.min_eq_left (by omega),Nat.mul_one]
theorem deleteW_any(wb bb N base:Nat)(c:List UInt8->Nat)(v:Value)(xs:List (List UInt8))(w:World)(hc:CntAt w wb c N)(hv:w.ownsRow base 9 1 v xs.length (nmCells xs))(hx:∀ x∈xs,x.length<=100000)(hl:xs.length<=1000000000):
 Calls Tryz.prog 181 #[v,.func (.func 183) #[.agg #[.map (some wb),.map (some bb)]] #[]] w fun e w'=>
  ∃ v',e=.returned v'/\w'.ownsRow base 9 1 v' (freeS c xs).length (nmCells (freeS c xs))/\w.grownBy w' v.ownBlock:=by
 have cI:=indexW_any wb bb N c v xs w hc ((RowIn.own hv).wide (Nat.zero_le _) ler) hx hl
 obtain⟨a,cap,rfl⟩:∃ a cap,v=.slice a xs.length cap:=(RowIn.own hv).form
 have HV:=hid hv
 have HC:=hid hc
 have HX:=hid hx
 clear hv hc hx
 go_enter Tryz.func181,Tryz.ntmps181
 go_wp2_with (first|(go_at_call 187;refine cI.mono ?_;rintro e w3 ⟨⟨rfl,h0⟩|⟨j,hj,rfl,h1,h2⟩,hB3⟩)|go_in)
 ·have HF:Hid (freeS c xs=xs):=free_all h0
  go_wp2
  go_ret
  refine⟨_,rfl,?_,?_⟩
  ·rw[HF.out]
   exact own_below HV.out hB3
  ·exact⟨hB3.os,hB3.tape,hB3.output,hB3.size,fun k hk _=>hB3.block k hk⟩
 ·obtain⟨g,cap',cur,e,hcc,hbg,_⟩:=own_cells HV.out (by omega)
  injection e with e1 _ e3
  subst e1 e3
  have hv3:=own_below HV.out hB3
  have hg:g<w.heap.size:=(Array.getElem?_eq_some_iff.1 hcc).1
  have hgw:g≠wb:=fun e=>by subst e;exact HC.out.no_cells _ _ _ hcc
  have hncap:xs.length<=cap:=by
   obtain⟨_,⟨h,_⟩|⟨g',cap',cur,h,hb,hg,hnc,_⟩⟩:=HV.out
   ·cases h
   ·injection h with _ _ e3
    rw[e3]
    exact hnc
  have hcm:cap<=maxLen:=by
   obtain⟨_,⟨h,_⟩|⟨g',cap',cur,h,hb,hg,hnc,hcm,_⟩⟩:=HV.out
   ·cases h
   ·injection h with _ _ e3
    rw[e3]
    exact hcm
  have hcm':(cap:Int)<=9223372036854775807:=by unfold maxLen at hcm;omega
  have HF0:Hid (freeS c (xs.take (j+1))=xs.take j):=by
   show _ = _
   rw[free_take hj,if_neg (by omega),List.append_nil]
   refine free_all (fun x hx=>?_)
   obtain⟨k,hk,rfl⟩:=List.getElem_of_mem hx
   rw[List.getElem_take]
   rw[List.length_take] at hk
   exact h2 k (by omega)
  have HG3:Hid (w.grownBy w3 (some g)):=⟨hB3.os,hB3.tape,hB3.output,hB3.size,fun k hk _=>hB3.block k hk⟩
  have HC3:Hid (CntAt w3 wb c N):=HC.out.below hB3 HC.out.lt
  clear h1 h2 hcc
  go_wp2
  go_loopw [5,6,7] (fun i5 i6 _ wr=>∃ (i k:Nat) (zs:List Value),i5=.int .i64 i/\i6=.int .i64 k/\i<k/\k<=xs.length/\Hid (zs.take i=nmCells (freeS c (xs.take k)))/\Hid (∀ t,k<=t->zs[t]? = (nmCells xs)[t]?)/\wr.ownsRow base 9 1 (.slice (some ⟨g,0,none⟩) xs.length cap) xs.length zs/\Hid (CntAt wr wb c N)/\Hid (w.grownBy wr (some g))) (fun _ i6 _ _=>xs.length-(intOf i6).toNat)
  case atStart=>
   refine⟨j,j+1,nmCells xs,by go_num,by go_num,by omega,by omega,?_,fun _ _=>rfl,hv3,HC3,HG3⟩
   show _ = _
   rw[HF0.out]
   unfold nmCells
   rw[List.map_take]
  case round=>
   obtain⟨i,k,zs,rfl,rfl,hik,hk,HT,HR,hown,HCr,HGr⟩:=hrel
   by_cases hlt:k<xs.length
   ·obtain⟨Y,hY⟩:∃ Y:ByteArray,Y=⟨xs[k].toArray⟩:=⟨_,rfl⟩
    have hYd:Y.data.toList=xs[k]:=by rw[hY]
    have hYs:Y.size<=maxLen:=by rw[size_of hYd];have:=HX.out _ (List.getElem_mem hlt);unfold maxLen;omega
    have q0:wr.cell? ⟨g,k,none⟩=some (.string Y):=by rw[hown.cellAt k (by omega),HR.out k ler,strs_cells hlt,hY]
    have cW:=isWaiting_any wb bb c N Y wr HCr.out hYs
    have hzl:zs.length=xs.length:=by have:=hown.1;omega
    rw[hYd] at cW
    have HR2:Hid (∀ t,k+1<=t->zs[t]? = (nmCells xs)[t]?):=fun t ht=>HR.out t (by omega)
    by_cases h0:0<c xs[k]
    ·have hd:decide (0<c xs[k])=true:=by simpa using h0
     rw[hd] at cW
     have HT2:Hid (zs.take i=nmCells (freeS c (xs.take (k+1)))):=by
      show _ = _
      rw[HT.out,free_take hlt,if_neg (by omega),List.append_nil]
     clear hd h0 hY hYd hYs hzl HR
     go_wp2_with (first|(go_at_call 183;refine cW.mono ?_;rintro e w7 ⟨rfl,hB7⟩)|go_in)
     go_roundw
     case rel=>exact⟨i,k+1,zs,rfl,by go_num,by omega,by omega,HT2,HR2,own_below hown hB7,HCr.out.below hB7 HCr.out.lt,grown_below HGr.out hB7⟩
     case measure=>simp[intOf];omega
    ·have hd:decide (0<c xs[k])=false:=by simpa using h0
     rw[hd] at cW
     have HT2:Hid ((zs.set i (.string Y)).take (i+1)=nmCells (freeS c (xs.take (k+1)))):=by
      show _ = _
      rw[free_take hlt,if_pos (by omega),List.take_succ_eq_append_getElem (by rw[List.length_set];omega),List.take_set_of_le ler,HT.out]
      unfold nmCells
      rw[List.map_append]
      simp[strV,hY]
     have HR3:Hid (∀ t,k+1<=t->(zs.set i (.string Y))[t]? = (nmCells xs)[t]?):=fun t ht=>by
      rw[List.getElem?_set_ne (by omega)]
      exact HR.out t (by omega)
     have HZi:Hid (zs[i]? = some (zs[i]'(by omega))):=List.getElem?_eq_getElem (by omega)
     generalize zs[i]'(by omega)=zi at HZi
     clear hd h0 hY hYd hYs hzl HR HR2
     go_wp2_with (first|(go_at_call 183;refine cW.mono ?_;rintro e w7 ⟨rfl,hB7⟩;have hown7:=own_below hown hB7;have c7:w7.cell? ⟨g,i,none⟩=some zi:=(hown7.cellAt i (by omega)).trans HZi.out;have f7:w7.frozen? ⟨g,i,none⟩=false:=hown7.frozenAt i)|go_in)
     obtain⟨s1,s2⟩:=hown7.stored i (.string Y)
     have HC8:Hid (CntAt (w7.setCell ⟨g,i,none⟩ (.string Y)) wb c N):=(HCr.out.below hB7 HCr.out.lt).kept s2 (fun e=>hgw (Option.some.inj e).symm)
     have HG8:Hid (w.grownBy (w7.setCell ⟨g,i,none⟩ (.string Y)) (some g)):=grown_then (grown_below HGr.out hB7) s2 (fun k hk=>.inl (Option.some.inj hk).symm)
     go_roundw
     case rel=>exact⟨i+1,k+1,zs.set i (.string Y),by go_num,by go_num,by omega,by omega,HT2,HR3,s1,HC8,HG8⟩
     case measure=>simp[intOf];omega
   ·have hkk:k=xs.length:=by omega
    have HTF:Hid (zs.take i=nmCells (freeS c xs)):=by
     have h1:=HT.out
     rw[hkk,List.take_length] at h1
     exact h1
    have hi:i<xs.length:=by omega
    have hcl:∀ ty,(Builtin.clear_ #[41] ty #[.slice (some ⟨g,i,none⟩) (xs.length-i) (cap-i)]).run Tryz.prog wr=.ok (.tuple #[]) (wr.setCells g i (List.replicate (xs.length-i) (.string ⟨#[]⟩))):=fun ty=>
     Lib.run_clear_slice wr _ _ ty _ Tryz.underlying41 (fun w=>by rw[Tryz.zeroValue9]) rfl rfl g i _ _ (by omega) (fun t ht=>by
      rw[hown.cellAt (i+t) (by omega)]
      have:=hown.1
      rw[List.getElem?_eq_getElem (by omega)]
      rfl) (fun t ht=>hown.frozenAt _)
    obtain⟨zs',o1,o2,o3⟩:=own_setCells (List.replicate (xs.length-i) (.string ⟨#[]⟩)) i wr zs hown
    have HO:Hid (∀ X,X=wr.setCells g i (List.replicate (xs.length-i) (.string ⟨#[]⟩))->X.ownsRow base 9 1 (.slice (some ⟨g,0,none⟩) i cap) (freeS c xs).length (nmCells (freeS c xs))/\w.grownBy X (some g)):=fun X e=>by
     subst e
     have h1:=own_cut o1 (i:=i) (by omega)
     rw[o2,HTF.out] at h1
     have h2:i=(freeS c xs).length:=by
      have h3:=congrArg List.length HTF.out
      have h4:=hown.1
      rw[List.length_take] at h3
      unfold nmCells at h3
      rw[List.length_map] at h3
      omega
     refine⟨?_,grown_then HGr.out o3 (fun k hk=>.inl (Option.some.inj hk).symm)⟩
     rw[<-h2]
     exact h1
    clear hkk o1 o2 o3 hown HT HTF HR
    go_wp2
    go_ret
    exact⟨_,rfl,HO.out _ rfl⟩
namespace M
def placeS(y:List UInt8):List (List UInt8)->Nat
 | []=>0
 | a :: r=>if Op.bytesLess a y=true then placeS y r+1 else 0
def insS(y:List UInt8):List (List UInt8)->List (List UInt8)
 | []=>[y]
 | a :: r=>if Op.bytesLess a y=true then a :: insS y r else y :: a :: r
theorem place_le(y:List UInt8):∀ xs:List (List UInt8),placeS y xs<=xs.length
 | []=>Nat.le_refl _
 | a :: r=>by
  unfold placeS
  have:=place_le y r
  split <;> simp <;> omega
theorem ins_eq(y:List UInt8):∀ xs:List (List UInt8),insS y xs=xs.take (placeS y xs)++y :: xs.drop (placeS y xs)
 | []=>rfl
 | a :: r=>by
  unfold insS placeS
  have:=ins_eq y r
  split
  ·simp[this]
  ·simp
theorem place_lt(y:List UInt8):∀ (xs:List (List UInt8)) (t:Nat) (ht:t<xs.length),t<placeS y xs->Op.bytesLess xs[t] y=true
 | [],t,ht,_=>absurd ht (Nat.not_lt_zero _)
 | a :: r,t,ht,h=>by
  unfold placeS at h
  split at h
  ·cases t with
   | zero=>simpa
   | succ t=>simpa using place_lt y r t (by simpa using ht) (by omega)
  ·omega
theorem place_ge(y:List UInt8):∀ (xs:List (List UInt8)) (_ : Rising xs) (t:Nat) (ht:t<xs.length),placeS y xs<=t->Op.bytesLess xs[t] y=false
 | [],_,t,ht,_=>absurd ht (Nat.not_lt_zero _)
 | a :: r,hr,t,ht,h=>by
  have hr':=List.pairwise_cons.1 hr
  unfold placeS at h
  split at h
  ·cases t with
   | zero=>omega
   | succ t=>simpa using place_ge y r hr'.2 t (by simpa using ht) (by omega)
  ·rename_i hna
   have hna:Op.bytesLess a y=false:=by simpa using hna
   cases t with
   | zero=>simpa using hna
   | succ t=>
    have ht':t<r.length:=by simpa using ht
    show Op.bytesLess r[t] y=false
    cases hq:Op.bytesLess r[t] y with
    | false=>rfl
    | true=>rw[less_trans (hr'.1 _ (List.getElem_mem ht')) hq] at hna;cases hna
theorem ins_mem(y x:List UInt8):∀ xs:List (List UInt8),x∈insS y xs↔x=y\/x∈xs
 | []=>by simp[insS]
 | a :: r=>by
  unfold insS
  have:=ins_mem y x r
  split
  ·rw[List.mem_cons,this,List.mem_cons]
   constructor
   ·rintro (h|h|h)
    ·exact .inr (.inl h)
    ·exact .inl h
    ·exact .inr (.inr h)
   ·rintro (h|h|h)
    ·exact .inr (.inl h)
    ·exact .inl h
    ·exact .inr (.inr h)
  ·rw[List.mem_cons]
theorem ins_length(y:List UInt8):∀ xs:List (List UInt8),(insS y xs).length=xs.length+1
 | []=>rfl
 | a :: r=>by
  unfold insS
  have:=ins_length y r
  split
  ·simp[this]
  ·simp
theorem ins_rising(y:List UInt8):∀ xs:List (List UInt8),Rising xs->y ∉ xs->Rising (insS y xs)
 | [],_,_=>by simp[insS,Rising]
 | a :: r,hr,hy=>by
  have hr':=List.pairwise_cons.1 hr
  have hya:y≠a:=fun e=>hy (by simp[e])
  have hyr:y ∉ r:=fun e=>hy (by simp[e])
  unfold insS
  split
  ·rename_i h
   refine List.pairwise_cons.2 ⟨fun x hx=>?_,ins_rising y r hr'.2 hyr⟩
   rcases(ins_mem y x r).1 hx with rfl|hx
   ·exact h
   ·exact hr'.1 x hx
  ·rename_i h
   have h:Op.bytesLess a y=false:=by simpa using h
   have hlt:Op.bytesLess y a=true:=by
    cases hq:Op.bytesLess y a with
    | true=>rfl
    | false=>exact absurd (less_total hq h) hya
   refine List.pairwise_cons.2 ⟨fun x hx=>?_,hr⟩
   rcases List.mem_cons.1 hx with rfl|hx
   ·exact hlt
   ·exact less_trans hlt (hr'.1 x hx)
end M
end Go.Proofs.YtgnfknjopafngabGreatDoor
namespace Go.Proofs
open Go.Shelf
def Tryz.laysNm222_ren:Go.Shelf.Ren:=⟨fun|22=>186|29=>239|30=>240|36=>268|17=>281|n=>n,fun|24=>41|9=>9|3=>3|4=>4|0=>0|n=>n,fun|n=>n⟩
theorem Tryz.laysNm222:Go.Proofs.Lays2.n22 Tryz.prog Tryz.laysNm222_ren:={
 mixed:=by kernel_rfl
 f17:=Tryz.func281.trans (congrArg some (by kernel_rfl))
 f22:=Tryz.func186.trans (congrArg some (by kernel_rfl))
 f29:=Tryz.func239.trans (congrArg some (by kernel_rfl))
 f30:=Tryz.func240.trans (congrArg some (by kernel_rfl))
 f36:=Tryz.func268.trans (congrArg some (by kernel_rfl))
 t0:=Tryz.underlying0
 a0:=Tryz.isAgg0
 z0:=Tryz.sizeOf0
 v0:=Tryz.zeroValue0
 t3:=Tryz.underlying3
 a3:=Tryz.isAgg3
 z3:=Tryz.sizeOf3
 v3:=Tryz.zeroValue3
 t4:=Tryz.underlying4
 a4:=Tryz.isAgg4
 z4:=Tryz.sizeOf4
 v4:=Tryz.zeroValue4
 t9:=Tryz.underlying9
 a9:=Tryz.isAgg9
 z9:=Tryz.sizeOf9
 v9:=Tryz.zeroValue9
 t24:=Tryz.underlying41
 a24:=Tryz.isAgg41
 z24:=Tryz.sizeOf41
 v24:=Tryz.zeroValue41
 i9:=by kernel_rfl }
def Tryz.laysNm226_ren:Go.Shelf.Ren:=⟨fun|26=>185|33=>237|34=>238|38=>267|n=>n,fun|24=>41|9=>9|3=>3|4=>4|40=>264|0=>0|n=>n,fun|n=>n⟩
theorem Tryz.laysNm226:Go.Proofs.Lays2.n26 Tryz.prog Tryz.laysNm226_ren:={
 mixed:=by kernel_rfl
 f26:=Tryz.func185.trans (congrArg some (by kernel_rfl))
 f33:=Tryz.func237.trans (congrArg some (by kernel_rfl))
 f34:=Tryz.func238.trans (congrArg some (by kernel_rfl))
 f38:=Tryz.func267.trans (congrArg some (by kernel_rfl))
 t0:=Tryz.underlying0
 a0:=Tryz.isAgg0
 z0:=Tryz.sizeOf0
 v0:=Tryz.zeroValue0
 t3:=Tryz.underlying3
 a3:=Tryz.isAgg3
 z3:=Tryz.sizeOf3
 v3:=Tryz.zeroValue3
 t4:=Tryz.underlying4
 a4:=Tryz.isAgg4
 z4:=Tryz.sizeOf4
 v4:=Tryz.zeroValue4
 t9:=Tryz.underlying9
 a9:=Tryz.isAgg9
 z9:=Tryz.sizeOf9
 v9:=Tryz.zeroValue9
 t24:=Tryz.underlying41
 a24:=Tryz.isAgg41
 z24:=Tryz.sizeOf41
 v24:=Tryz.zeroValue41
 t40:=Tryz.underlying264
 a40:=Tryz.isAgg264
 z40:=Tryz.sizeOf264
 v40:=Tryz.zeroValue264 }
end Go.Proofs
namespace Go.Proofs.YtgnfknjopafngabGreatDoor
open Go.RowKit Go.Maps
theorem search_any(a:Option Addr)(cap:Nat)(xs:List (List UInt8))(Y:ByteArray)(w:World)(hr:M.Rising xs)(hl:xs.length<=1000000000)(hc:0<xs.length->∃ g off,a=some ⟨g,off,none⟩/\∀ j (hj:j<xs.length),w.cell? ⟨g,off+j,none⟩=some (.string ⟨xs[j].toArray⟩)):
 Calls Tryz.prog 185 #[.slice a xs.length cap,.string Y] w fun e w'=>∃ b:Bool,e=.returned (.tuple #[.int .i64 (M.placeS Y.data.toList xs:Nat),.bool b])/\∃ q,w'=w.drewN q:=by
 by_cases h0:xs.length=0
 ·have e:xs=[]:=List.length_eq_zero_iff.1 h0
  subst e
  refine(Any2.slices_BinarySearch_string_empty Tryz.laysNm226 a cap Y w).mono ?_
  rintro e w' ⟨rfl,rfl⟩
  exact⟨false,rfl,0,rfl⟩
 ·obtain⟨g,off,rfl,hcell⟩:=hc (by omega)
  have hS:∀ j,j<xs.length->w.cell? ⟨g,off+j,none⟩=some (.string (if h:j<xs.length then ⟨xs[j].toArray⟩ else Y)):=fun j hj=>by rw[dif_pos hj];exact hcell j hj
  have h1:Lib.bsGo (fun t=>Op.bytesLess (if h:t<xs.length then (⟨xs[t].toArray⟩:ByteArray) else Y).toList Y.toList) xs.length 0 xs.length=M.placeS Y.data.toList xs:=by
   refine Lib.bsGo_spec _ _ (fun t ht=>?_) (fun t ht=>?_) _ _ _ (by omega) (Nat.zero_le _) (M.place_le _ _)
   ·have hlt:t<xs.length:=Nat.lt_of_lt_of_le ht (M.place_le _ _)
    have:=M.place_lt Y.data.toList xs t hlt ht
    simp only[dif_pos hlt,ByteArray.toList_eq]
    exact this
   ·by_cases hlt:t<xs.length
    ·have:=M.place_ge Y.data.toList xs hr t hlt ht
     simp only[dif_pos hlt,ByteArray.toList_eq]
     exact this
    ·simp only[dif_neg hlt]
     exact M.less_irrefl _
  refine(Any2.slices_BinarySearch_string Tryz.laysNm226 g off xs.length cap _ Y w (by omega) hS).mono ?_
  rintro e w' ⟨rfl,q,rfl⟩
  rw[h1]
  exact⟨_,rfl,q,rfl⟩
end Go.Proofs.YtgnfknjopafngabGreatDoor
