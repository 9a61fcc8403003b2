import Derived.Test.YtgnfknjopafngabGreatDoorKny
set_option maxRecDepth 100000
set_option maxHeartbeats 8000000
namespace Go.Proofs.YtgnfknjopafngabGreatDoor
open Go.RowKit Go.Maps
theorem found_any(F P:ByteArray)(fb:Nat)(w:World)(hP:P.toList.isEmpty=false)(hf:w.cell? ⟨fb,0,none⟩=some (.string F))(hz:w.frozen? ⟨fb,0,none⟩=false):
 Calls Tryz.prog 265 #[.string P,.pointer (some ⟨fb,0,none⟩)] w fun e w'=>e=.returned (.tuple #[])/\w'.cell? ⟨fb,0,none⟩=some (.string (firstB F P))/\w'.frozen? ⟨fb,0,none⟩=false/\w.grownBy w' (some fb):=by
 have hset:w.grownBy (w.setCell ⟨fb,0,none⟩ (.string P)) (some fb):=⟨rfl,rfl,rfl,by rw[setC_size];exact Nat.le_refl _,fun k _ hne=>by
  have hne':k≠fb:=fun e=>hne (by rw[e])
  simp only[World.setCell]
  rw[Array.getElem?_modify,if_neg (fun e=>hne' e.symm)]⟩
 by_cases h0:F.toList.isEmpty=true
 ·rw[firstB_b (.inl h0)]
  go_enter Tryz.func265,Tryz.ntmps265
  go_wp2
  go_end0
  exact⟨rfl,World.cell?_setCell_same _ _ _ hf,by rw[World.frozen?_setCell];exact hz,hset⟩
 ·replace h0:F.toList.isEmpty=false:=by simpa using h0
  by_cases h1:Op.bytesLess P.toList F.toList=true
  ·rw[firstB_b (.inr ⟨hP,h1⟩)]
   go_enter Tryz.func265,Tryz.ntmps265
   go_wp2
   go_end0
   exact⟨rfl,World.cell?_setCell_same _ _ _ hf,by rw[World.frozen?_setCell];exact hz,hset⟩
  ·replace h1:Op.bytesLess P.toList F.toList=false:=by simpa using h1
   rw[firstB_a h0 (.inr h1)]
   go_enter Tryz.func265,Tryz.ntmps265
   go_wp2
   go_end0
   exact⟨rfl,hf,hz,⟨rfl,rfl,rfl,Nat.le_refl _,fun _ _ _=>rfl⟩⟩
theorem wpList_next_cnt{P:Program}{K:TypeId}{w:World}{ops:Array Oper}{rest:List Oper}{o:Oper}{a:Act}{Q:Exit->Act->World->Prop}(hg:o.guard=none)(it:Operand)(hop:o.op=Op.next it false)(hk:P.underlying K=some .string)(b r:Nat)(l todo:List KV)(cnt:Nat)(hit:a.eval it=.pointer (some ⟨r,0,none⟩))(h:Ranging P K w b r l todo cnt)(hsh:∀ p∈l,∃ n:Nat,p.2=.int .i64 n)
 (hDone:cnt=0->todo=[]->wpList P ops Q rest (a.put o.dst (.tuple #[.bool false])) w)
 (hMore:∀ (s:ByteArray) (n:Nat) (todo':List KV) (w':World) (cnt':Nat),s.size<=maxLen->todo.Perm ((s.data.toList,.int .i64 n) :: todo')->Ranging P K w' b r l todo' cnt'->cnt'<cnt->w.grownBy w' (some r)->w'.heap.size=w.heap.size->
   (Instr.entry (.pointer (some ⟨r,0,none⟩))).run P w'=.ok (.tuple #[.string s,.int .i64 n]) w'->wpList P ops Q rest (a.put o.dst (.tuple #[.bool true,.string s,.int .i64 n])) w'):
 wpList P ops Q (o :: rest) a w:=by
 have hsub:∀ p∈todo,p∈l:=by
  obtain⟨_,_,_,_,_,_,_,h4⟩:=h
  exact fun p hp=>((h4 p).1 hp).1
 refine wpList_next_str hg it hop hk b r l todo cnt hit h hDone (fun s v todo' w' cnt' h1 h2 h3 h4 h5 h6 h7=>?_)
 obtain⟨n,e⟩:=hsh _ (hsub _ (h2.mem_iff.2 (List.mem_cons_self)))
 dsimp only at e
 subst e
 exact hMore s n todo' w' cnt' h1 h2 h3 h4 h5 h6 h7
def Brings(c:List UInt8->Nat)(k:List UInt8)(x:List UInt8):Prop:=(1<c k/\x=k)\/(x∈foldersS k/\0<c x)
theorem brings_shared{l:List M.Pk}{L:List KV}(hk:Keys L)(h:∀ x,lookK L x=if (M.pathsOf l).count x=0 then none else some (.int .i64 ((M.pathsOf l).count x)))(x:List UInt8):
 (∃ q∈L,Brings (fun y=>(M.pathsOf l).count y) q.1 x)↔M.Shared l x:=by
 have hm:∀ y,(∃ q∈L,q.1=y)↔y∈M.pathsOf l:=fun y=>by
  rw[<-List.count_pos_iff]
  constructor
  ·rintro ⟨q,hq,rfl⟩
   have:=(look_mem hk).2 (show (q.1,q.2)∈L from hq)
   rw[h] at this
   by_cases h0:(M.pathsOf l).count q.1=0
   ·rw[if_pos h0] at this;cases this
   ·omega
  ·intro hc
   have:=h y
   rw[if_neg (by omega)] at this
   exact⟨_,(look_mem hk).1 this,rfl⟩
 unfold M.Shared Brings
 constructor
 ·rintro ⟨q,hq,⟨h1,rfl⟩|⟨h1,h2⟩⟩
  ·exact .inl h1
  ·refine .inr ⟨List.count_pos_iff.1 h2,q.1,(hm q.1).1 ⟨q,hq,rfl⟩,?_⟩
   rw[over_is]
   exact List.contains_iff_mem.2 h1
 ·rintro (h1|⟨h1,y,hy,ho⟩)
  ·obtain⟨q,hq,e⟩:=(hm x).2 (List.count_pos_iff.1 (by omega))
   exact⟨q,hq,.inl ⟨by rw[e];exact h1,e.symm⟩⟩
  ·obtain⟨q,hq,e⟩:=(hm y).2 hy
   rw[over_is] at ho
   exact⟨q,hq,.inr ⟨by rw[e];exact List.contains_iff_mem.1 ho,List.count_pos_iff.2 h1⟩⟩
theorem not_empty{P:ByteArray}{x:List UInt8}(h:P.data.toList=x)(hx:x≠[]):P.toList.isEmpty=false:=by
 rw[Lib.toList_data,h]
 cases x with
 | nil=>exact absurd rfl hx
 | cons _ _=>rfl
theorem firstB_data(F P:ByteArray):(firstB F P).data.toList=M.firstS F.data.toList P.data.toList:=rfl
theorem firstShared_any(b:Nat)(l:List M.Pk)(w:World)(hl:SetIn w b l)(hn:l.length<=100000)(hs:∀ p∈l,ReadP p):
 Calls Tryz.prog 235 #[.map (some b)] w fun e w'=>∃ T:ByteArray,e=.returned (.string T)/\T.data.toList=M.clashingS l/\Below w.heap.size w w':=by
 have HMin:Hid (M.IsMin (M.Shared l) (M.clashingS l)):=M.shared_min hl.apart (fun p hp=>(hs p hp).good)
 have HNe:Hid (∀ x∈M.pathsOf l,x≠[]/\x.length<=8000):=fun x hx=>by
  obtain⟨p,hp,f,hf,rfl⟩:=M.mem_paths.1 hx
  exact⟨(hs p hp).good.paths f hf,((hs p hp).short.files f hf).1⟩
 generalize hA1:w.alloc (.cells #[.string ⟨#[]⟩] 9)=A1
 generalize hW1:A1.setCell ⟨w.heap.size,0,none⟩ (.string ⟨#[]⟩)=W1
 have HB1:Hid (Below w.heap.size w W1):=by rw[<-hW1,<-hA1];exact((Below.refl _ w).alloc ler _).setCell ler _
 have s1:W1.heap.size=w.heap.size+1:=by rw[<-hW1,setC_size,<-hA1];simp
 have f0:A1.cell? ⟨w.heap.size,0,none⟩=some (.string ⟨#[]⟩):=by rw[<-hA1];exact new_at w [.string ⟨#[]⟩] _ 0 _ rfl
 have z0:A1.frozen? ⟨w.heap.size,0,none⟩=false:=by rw[<-hA1];exact(newB w [.string ⟨#[]⟩] 9 0).2.2.2 0
 have f1:W1.cell? ⟨w.heap.size,0,none⟩=some (.string ⟨#[]⟩):=by rw[<-hW1];exact World.cell?_setCell_same _ _ _ f0
 have z1:W1.frozen? ⟨w.heap.size,0,none⟩=false:=by rw[<-hW1,World.frozen?_setCell];exact z0
 have cO:=fun wx (hb:Below w.heap.size w wx)=>owners_any b l wx (hl.below hb) hn hs
 have hmf:∀ (fn:Fn) (first cap:Array Value) (w:World),(Instr.makeFunc fn first cap).run Tryz.prog w=.ok (.func fn first cap) w:=fun _ _ _ _=>rfl
 clear hl hs
 go_enter Tryz.func235,Tryz.ntmps235
 go_wp2_with fail
 refine(cO _ HB1.out).mono ?_
 rintro e w2 ⟨ob,NN,rfl,hcnt,hNN,hB2⟩
 have f2:w2.cell? ⟨w.heap.size,0,none⟩=some (.string ⟨#[]⟩):=(hB2.cell (p:=⟨w.heap.size,0,none⟩) (by show w.heap.size < _;omega)).trans f1
 have z2:w2.frozen? ⟨w.heap.size,0,none⟩=false:=(hB2.frozen (p:=⟨w.heap.size,0,none⟩) (by show w.heap.size < _;omega)).trans z1
 have hBw2:Below w.heap.size w w2:=bt HB1.out hB2
 obtain⟨L,hL,hLn,hLk⟩:=hcnt
 have hob:ob≠w.heap.size:=by
  rintro rfl
  obtain⟨es,cc,hb⟩:=hL.block?
  simp[World.cell?,hb] at f2
 have hobl:=hL.lt
 have HKL:=hid hL.keys
 have HLk:=hid hLk
 have HBr:Hid (∀ x,(∃ q∈L,Brings (fun y=>(M.pathsOf l).count y) q.1 x)↔M.Shared l x):=brings_shared hL.keys hLk
 have HSh:Hid (∀ q∈L,q.2=.int .i64 ((M.pathsOf l).count q.1)/\q.1∈M.pathsOf l):=fun q hq=>by
  have:=(look_mem HKL.out).2 (show (q.1,q.2)∈L from hq)
  rw[hLk] at this
  by_cases h0:(M.pathsOf l).count q.1=0
  ·rw[if_pos h0] at this;cases this
  ·rw[if_neg h0] at this
   exact⟨(Option.some.inj this).symm,List.count_pos_iff.1 (by omega)⟩
 have HSn:Hid (∀ q∈L,∃ n:Nat,q.2=.int .i64 n):=fun q hq=>⟨_,(HSh.out q hq).1⟩
 generalize hc:(fun y=>(M.pathsOf l).count y)=c at HBr
 have Hc:Hid (∀ y,(M.pathsOf l).count y=c y):=fun y=>by rw[<-hc]
 clear hLk hc cO
 go_wp2_with (first|(at_range;refine wpList_range_str rfl _ rfl Tryz.underlying9 cntMap ob L rfl hL ?_;intro w0 hrg0 hg0 hs0)|go_in)
 go_frame
 have hr2:w2.heap.size≠w.heap.size:=by have:=hBw2.size;have:=hB2.size;omega
 have f3:w0.cell? ⟨w.heap.size,0,none⟩=some (.string ⟨#[]⟩):=(World.cell?_of_block (a:=⟨w.heap.size,0,none⟩) (hg0.block w.heap.size (by have:=hB2.size;omega) (by simp))).trans f2
 have z3:w0.frozen? ⟨w.heap.size,0,none⟩=false:=(World.frozen?_of_block (a:=⟨w.heap.size,0,none⟩) (hg0.block w.heap.size (by have:=hB2.size;omega) (by simp))).trans z2
 have hB0:Below w.heap.size w w0:=hBw2.grown hg0 hBw2.size (fun j hj=>by cases hj)
 clear f0 z0 f1 z1 f2 z2 hL hg0 hs0 hA1 hW1
 go_loopw [6,7,9] (fun _ _ _ wr=>∃ (todo done:List KV) (cnt:Nat) (F:ByteArray),Ranging Tryz.prog 9 wr ob w2.heap.size L todo cnt/\wr.cell? ⟨w.heap.size,0,none⟩=some (.string F)/\wr.frozen? ⟨w.heap.size,0,none⟩=false/\Hid ((done++todo).Perm L)/\Hid (M.IsMin (fun x=>∃ q∈done,Brings c q.1 x) F.data.toList)/\Below w.heap.size w wr) (fun _ _ _ wr=>wr.rangeLeft ob w2.heap.size)
 case atStart=>exact⟨L,[],_,⟨#[]⟩,hrg0,f3,z3,List.Perm.refl _,M.IsMin.start.congr (fun x=>by simp),hB0⟩
 case round=>
  obtain⟨todo,done,cnt,F,hrg,hF,hZ,HP,HI,hBr⟩:=hrel
  go_wp2_with (first|(at_next;refine wpList_next_cnt rfl _ rfl Tryz.underlying9 ob w2.heap.size L todo cnt rfl hrg HSn.out ?_ ?_)|go_in)
  ·intro hc0 ht0
   have HE:Hid (F.data.toList=M.clashingS l):=by
    refine M.IsMin.unique (HI.out.congr (fun x=>?_)) HMin.out
    have hp:=HP.out
    rw[ht0,List.append_nil] at hp
    rw[<-HBr.out]
    constructor
    ·rintro ⟨q,hq,h⟩;exact⟨q,hp.mem_iff.1 hq,h⟩
    ·rintro ⟨q,hq,h⟩;exact⟨q,hp.mem_iff.2 hq,h⟩
   clear hc0 ht0
   go_wp2
   go_ret
   exact⟨F,rfl,HE.out,hBr⟩
  ·intro k n todo' w' cnt' hks hperm hrg' hlt hg' hs' hen
   have hmem:(k.data.toList,Value.int .i64 n)∈L:=HP.out.mem_iff.1 (List.mem_append.2 (.inr (hperm.mem_iff.2 List.mem_cons_self)))
   have hkp:k.data.toList∈M.pathsOf l:=(HSh.out _ hmem).2
   have hnc:n=c k.data.toList:=by
    have:=(HSh.out _ hmem).1
    dsimp only at this
    injection this with _ this
    rw[<-Hc.out]
    exact_mod_cast this
   have hkne:k.toList.isEmpty=false:=not_empty rfl (HNe.out _ hkp).1
   have hks2:k.size<=100000:=by have:=(HNe.out _ hkp).2;rw[len_data] at this;omega
   have HPm:Hid (((done++[(k.data.toList,Value.int .i64 n)])++todo').Perm L):=by
    show List.Perm _ _
    rw[List.append_assoc]
    exact(List.Perm.append_left done hperm.symm).trans HP.out
   have hlt':w.heap.size<wr.heap.size:=World.block_lt_of_cell? _ _ hF
   have hF':w'.cell? ⟨w.heap.size,0,none⟩=some (.string F):=(World.cell?_of_block (a:=⟨w.heap.size,0,none⟩) (hg'.block _ hlt' (fun e=>hr2 (Option.some.inj e).symm))).trans hF
   have hZ':w'.frozen? ⟨w.heap.size,0,none⟩=false:=(World.frozen?_of_block (a:=⟨w.heap.size,0,none⟩) (hg'.block _ hlt' (fun e=>hr2 (Option.some.inj e).symm))).trans hZ
   have hB':Below w.heap.size w w':=hBr.grown hg' hBr.size (fun j hj=>by cases hj;exact hBw2.size)
   have cFo:=fun wx=>folders_any k wx hks2
   have HNc:=hid hnc
   clear hperm hmem HP hs' hnc hF hZ hBr hg'
   by_cases h1:1<n
   ·have h1':((n:Int) > 1):=by omega
    have cF:=found_any F k w.heap.size w' hkne hF' hZ'
    have HIy:Hid (M.IsMin (fun x=>(∃ q∈done,Brings c q.1 x)\/(1<c k.data.toList/\x=k.data.toList)) (firstB F k).data.toList):=by
     rw[firstB_data]
     refine(HI.out.add (HNe.out _ hkp).1).congr (fun x=>or_congr Iff.rfl ⟨fun e=>⟨by rw[<-HNc.out];exact h1,e⟩,fun e=>e.2⟩)
    generalize firstB F k=F3 at cF HIy
    go_wp2_with fail
    refine cF.mono ?_
    rintro e w3 ⟨rfl,hF3,hZ3,hg3⟩
    have hrg3:=hrg'.kept hg3 (fun e=>hob (Option.some.inj e)) (fun e=>hr2 (Option.some.inj e))
    have hB3:Below w.heap.size w w3:=hB'.grown hg3 hB'.size (fun i hi=>by cases hi;exact Nat.le_refl _)
    clear cF hF' hZ' hg3 hrg' hB' hen HI
    have HI3:=hid HIy
    go_wp2_with fail
    refine(cFo _).mono ?_
    rintro e w4 ⟨v4,rfl,hrow4,hB4⟩
    obtain⟨a4,c4,e4⟩:=own_form hrow4
    subst e4
    have HRow4:Hid (RowIn w4 0 w4.heap.size (.slice a4 (foldersS k.data.toList).length c4) (foldersS k.data.toList).length ((foldersS k.data.toList).map strV)):=(RowIn.own hrow4).wide (Nat.zero_le _) ler
    have hfl:(foldersS k.data.toList).length<=100000:=by have:=foldU_len k.data.toList k.data.toList.length;rw[<-foldU_all,len_data] at this;omega
    have hl3:w.heap.size<w3.heap.size:=World.block_lt_of_cell? _ _ hF3
    have HGe:Hid (∀ gg o n,Value.slice a4 (foldersS k.data.toList).length c4=.slice (some ⟨gg,o,none⟩) (foldersS k.data.toList).length n->w.heap.size<gg):=fun gg o n e=>by
     obtain⟨_,⟨e',_⟩|⟨g',cap',cur',e',hb',_⟩⟩:=hrow4
     ·rw[e'] at e;cases e
     ·rw[e'] at e;cases e;omega
    have hF4:w4.cell? ⟨w.heap.size,0,none⟩=some (.string F3):=(hB4.cell (p:=⟨w.heap.size,0,none⟩) hl3).trans hF3
    have hZ4:w4.frozen? ⟨w.heap.size,0,none⟩=false:=(hB4.frozen (p:=⟨w.heap.size,0,none⟩) hl3).trans hZ3
    have hrg4:=hrg3.below hB4
    have hB40:Below w.heap.size w w4:=bt hB3 hB4
    generalize hFS:foldersS k.data.toList=FS at HRow4 hfl HGe
    have HFS:=hid hFS
    clear hrow4 hB4 cFo hrg3 hF3 hZ3 hB3 hFS
    go_wp2
    go_loopw [9,28] (fun _ i wr=>∃ (j:Nat) (Fj:ByteArray),i=.int .i64 j/\j<=FS.length/\Ranging Tryz.prog 9 wr ob w2.heap.size L todo' cnt'/\wr.cell? ⟨w.heap.size,0,none⟩=some (.string Fj)/\wr.frozen? ⟨w.heap.size,0,none⟩=false/\Hid (M.IsMin (fun x=>((∃ q∈done,Brings c q.1 x)\/(1<c k.data.toList/\x=k.data.toList))\/(x∈FS.take j/\0<c x)) Fj.data.toList)/\w4.grownBy wr (some w.heap.size)) (fun _ i _=>FS.length-(intOf i).toNat)
    case atStart=>exact⟨0,F3,rfl,Nat.zero_le _,hrg4,hF4,hZ4,HI3.out.congr (fun x=>by simp),⟨rfl,rfl,rfl,Nat.le_refl _,fun _ _ _=>rfl⟩⟩
    case round=>
     obtain⟨j,Fj,rfl,hj,hrj,hFj,hZj,HIj,hgj⟩:=hrel
     by_cases hlj:j<FS.length
     ·obtain⟨g,rfl,hg,hcap,hcc⟩:=HRow4.out.cellAt (by omega)
      obtain⟨X,hX⟩:∃ X:ByteArray,X=⟨FS[j].toArray⟩:=⟨_,rfl⟩
      have hgne:g≠w.heap.size:=by have:=HGe.out g 0 c4 rfl;omega
      have q0:wr.cell? ⟨g,j,none⟩=some (.string X):=by
       rw[hX]
       exact(World.cell?_of_block (a:=⟨g,j,none⟩) (hgj.block g hg (fun e=>hgne (Option.some.inj e)))).trans (hcc j _ (by rw[List.getElem?_map,List.getElem?_eq_getElem hlj];rfl))
      have hXd:X.data.toList=FS[j]:=by rw[hX]
      have hXs:X.size<=maxLen:=by
       have h1:X.data.toList.length<=k.data.toList.length:=by
        have:FS[j]∈foldersS k.data.toList:=by rw[HFS.out];exact List.getElem_mem hlj
        unfold foldersS at this
        obtain⟨i,_,hi⟩:=List.mem_flatMap.1 this
        split at hi
        ·simp at hi;rw[hXd,hi,List.length_take];omega
        ·cases hi
       rw[len_data,len_data] at h1
       unfold maxLen
       omega
      have hlk:(Instr.lookup 277 (.map (some ob)) (.string X) false).run Tryz.prog wr=.ok (.int .i64 (c X.data.toList)) wr:=by
       rw[hrj.map.look Tryz.underlying9 cntMap (zeroInt_run wr) hXs,CntIn.get HLk.out,Hc.out]
      obtain⟨cx,hcx⟩:∃ cx,cx=c X.data.toList:=⟨_,rfl⟩
      rw[<-hcx] at hlk
      have HCx:=hid hcx
      have HXd:=hid hXd
      clear hX hXd hcx hcc
      by_cases hpos:0<cx
      ·have hXp:X.data.toList∈M.pathsOf l:=List.count_pos_iff.1 (by rw[Hc.out,<-HCx.out];exact hpos)
       have hXn:X.toList.isEmpty=false:=not_empty rfl (HNe.out _ hXp).1
       have hpos':((cx:Int) > 0):=by omega
       have cF:=found_any Fj X w.heap.size wr hXn hFj hZj
       have HI2:Hid (M.IsMin (fun x=>((∃ q∈done,Brings c q.1 x)\/(1<c k.data.toList/\x=k.data.toList))\/(x∈FS.take (j+1)/\0<c x)) (firstB Fj X).data.toList):=by
        rw[firstB_data]
        refine(HIj.out.add (HNe.out _ hXp).1).congr (fun x=>?_)
        rw[List.take_succ_eq_append_getElem hlj]
        constructor
        ·rintro ((h|⟨h1,h2⟩)|rfl)
         ·exact .inl h
         ·exact .inr ⟨List.mem_append.2 (.inl h1),h2⟩
         ·exact .inr ⟨List.mem_append.2 (.inr (by simp[HXd.out])),by rw[<-HCx.out];exact hpos⟩
        ·rintro (h|⟨h1,h2⟩)
         ·exact .inl (.inl h)
         ·rcases List.mem_append.1 h1 with h1|h1
          ·exact .inl (.inr ⟨h1,h2⟩)
          ·simp at h1;exact .inr (by rw[h1,HXd.out])
       generalize firstB Fj X=F5 at cF HI2
       clear hXp hXn
       go_wp2_with fail
       refine cF.mono ?_
       rintro e w5 ⟨rfl,hF5,hZ5,hg5⟩
       have hrj5:=hrj.kept hg5 (fun e=>hob (Option.some.inj e)) (fun e=>hr2 (Option.some.inj e))
       have hgj5:=hgj.andThen hg5 (fun i hi=>.inr hi)
       clear cF hg5 hlk hFj hZj
       go_wp2
       go_roundw
       case rel=>exact⟨j+1,F5,by go_num,by omega,hrj5,hF5,hZ5,HI2,hgj5⟩
       case measure=>simp[intOf];omega
      ·have hpos':¬ ((cx:Int) > 0):=by omega
       have HI2:Hid (M.IsMin (fun x=>((∃ q∈done,Brings c q.1 x)\/(1<c k.data.toList/\x=k.data.toList))\/(x∈FS.take (j+1)/\0<c x)) Fj.data.toList):=by
        refine HIj.out.congr (fun x=>or_congr Iff.rfl ?_)
        rw[List.take_succ_eq_append_getElem hlj]
        constructor
        ·rintro ⟨h1,h2⟩;exact⟨List.mem_append.2 (.inl h1),h2⟩
        ·rintro ⟨h1,h2⟩
         rcases List.mem_append.1 h1 with h1|h1
         ·exact⟨h1,h2⟩
         ·simp at h1
          rw[h1,<-HXd.out,<-HCx.out] at h2
          exact absurd h2 hpos
       go_wp2
       go_roundw
       case rel=>exact⟨j+1,Fj,by go_num,by omega,hrj,hFj,hZj,HI2,hgj⟩
       case measure=>simp[intOf];omega
     ·have hjj:j=FS.length:=by omega
      have HI6:Hid (M.IsMin (fun x=>∃ q∈done++[(k.data.toList,Value.int .i64 n)],Brings c q.1 x) Fj.data.toList):=by
       refine HIj.out.congr (fun x=>?_)
       rw[hjj,List.take_length]
       constructor
       ·rintro ((⟨q,hq,h⟩|h)|⟨h1,h2⟩)
        ·exact⟨q,List.mem_append.2 (.inl hq),h⟩
        ·exact⟨(k.data.toList,Value.int .i64 n),List.mem_append.2 (.inr (by simp)),.inl h⟩
        ·exact⟨(k.data.toList,Value.int .i64 n),List.mem_append.2 (.inr (by simp)),.inr ⟨by rw[HFS.out];exact h1,h2⟩⟩
       ·rintro ⟨q,hq,h⟩
        rcases List.mem_append.1 hq with hq|hq
        ·exact .inl (.inl ⟨q,hq,h⟩)
        ·simp at hq
         subst hq
         rcases h with h|⟨h1,h2⟩
         ·exact .inl (.inr h)
         ·exact .inr ⟨by rw[<-HFS.out];exact h1,h2⟩
      have hB7:Below w.heap.size w wr:=hB40.grown hgj hB40.size (fun i hi=>by cases hi;exact Nat.le_refl _)
      clear hjj
      go_wp2
      go_roundw
      case rel=>exact⟨todo',_,cnt',Fj,hrj,hFj,hZj,HPm,HI6,hB7⟩
      case measure=>rw[hrj.left_eq,hrg.left_eq];exact hlt
   ·have h1':¬ ((n:Int) > 1):=by omega
    obtain⟨w3,hw3⟩:∃ W,W=w':=⟨_,rfl⟩
    subst hw3
    obtain⟨F3,hF3e⟩:∃ X,X=F:=⟨_,rfl⟩
    subst hF3e
    have hF3:=hF'
    have hZ3:=hZ'
    have hrg3:=hrg'
    have hB3:=hB'
    have HIn:Hid (M.IsMin (fun x=>(∃ q∈done,Brings c q.1 x)\/(1<c k.data.toList/\x=k.data.toList)) F3.data.toList):=HI.out.skip (fun x h=>by have:=h.1;rw[<-HNc.out] at this;exact h1 this)
    clear hF' hZ' hrg' hB' HI
    have HI3:=hid HIn
    go_wp2_with fail
    refine(cFo _).mono ?_
    rintro e w4 ⟨v4,rfl,hrow4,hB4⟩
    obtain⟨a4,c4,e4⟩:=own_form hrow4
    subst e4
    have HRow4:Hid (RowIn w4 0 w4.heap.size (.slice a4 (foldersS k.data.toList).length c4) (foldersS k.data.toList).length ((foldersS k.data.toList).map strV)):=(RowIn.own hrow4).wide (Nat.zero_le _) ler
    have hfl:(foldersS k.data.toList).length<=100000:=by have:=foldU_len k.data.toList k.data.toList.length;rw[<-foldU_all,len_data] at this;omega
    have hl3:w.heap.size<w3.heap.size:=World.block_lt_of_cell? _ _ hF3
    have HGe:Hid (∀ gg o n,Value.slice a4 (foldersS k.data.toList).length c4=.slice (some ⟨gg,o,none⟩) (foldersS k.data.toList).length n->w.heap.size<gg):=fun gg o n e=>by
     obtain⟨_,⟨e',_⟩|⟨g',cap',cur',e',hb',_⟩⟩:=hrow4
     ·rw[e'] at e;cases e
     ·rw[e'] at e;cases e;omega
    have hF4:w4.cell? ⟨w.heap.size,0,none⟩=some (.string F3):=(hB4.cell (p:=⟨w.heap.size,0,none⟩) hl3).trans hF3
    have hZ4:w4.frozen? ⟨w.heap.size,0,none⟩=false:=(hB4.frozen (p:=⟨w.heap.size,0,none⟩) hl3).trans hZ3
    have hrg4:=hrg3.below hB4
    have hB40:Below w.heap.size w w4:=bt hB3 hB4
    generalize hFS:foldersS k.data.toList=FS at HRow4 hfl HGe
    have HFS:=hid hFS
    clear hrow4 hB4 cFo hrg3 hF3 hZ3 hB3 hFS
    go_wp2
    go_loopw [9,28] (fun _ i wr=>∃ (j:Nat) (Fj:ByteArray),i=.int .i64 j/\j<=FS.length/\Ranging Tryz.prog 9 wr ob w2.heap.size L todo' cnt'/\wr.cell? ⟨w.heap.size,0,none⟩=some (.string Fj)/\wr.frozen? ⟨w.heap.size,0,none⟩=false/\Hid (M.IsMin (fun x=>((∃ q∈done,Brings c q.1 x)\/(1<c k.data.toList/\x=k.data.toList))\/(x∈FS.take j/\0<c x)) Fj.data.toList)/\w4.grownBy wr (some w.heap.size)) (fun _ i _=>FS.length-(intOf i).toNat)
    case atStart=>exact⟨0,F3,rfl,Nat.zero_le _,hrg4,hF4,hZ4,HI3.out.congr (fun x=>by simp),⟨rfl,rfl,rfl,Nat.le_refl _,fun _ _ _=>rfl⟩⟩
    case round=>
     obtain⟨j,Fj,rfl,hj,hrj,hFj,hZj,HIj,hgj⟩:=hrel
     by_cases hlj:j<FS.length
     ·obtain⟨g,rfl,hg,hcap,hcc⟩:=HRow4.out.cellAt (by omega)
      obtain⟨X,hX⟩:∃ X:ByteArray,X=⟨FS[j].toArray⟩:=⟨_,rfl⟩
      have hgne:g≠w.heap.size:=by have:=HGe.out g 0 c4 rfl;omega
      have q0:wr.cell? ⟨g,j,none⟩=some (.string X):=by
       rw[hX]
       exact(World.cell?_of_block (a:=⟨g,j,none⟩) (hgj.block g hg (fun e=>hgne (Option.some.inj e)))).trans (hcc j _ (by rw[List.getElem?_map,List.getElem?_eq_getElem hlj];rfl))
      have hXd:X.data.toList=FS[j]:=by rw[hX]
      have hXs:X.size<=maxLen:=by
       have h1:X.data.toList.length<=k.data.toList.length:=by
        have:FS[j]∈foldersS k.data.toList:=by rw[HFS.out];exact List.getElem_mem hlj
        unfold foldersS at this
        obtain⟨i,_,hi⟩:=List.mem_flatMap.1 this
        split at hi
        ·simp at hi;rw[hXd,hi,List.length_take];omega
        ·cases hi
       rw[len_data,len_data] at h1
       unfold maxLen
       omega
      have hlk:(Instr.lookup 277 (.map (some ob)) (.string X) false).run Tryz.prog wr=.ok (.int .i64 (c X.data.toList)) wr:=by
       rw[hrj.map.look Tryz.underlying9 cntMap (zeroInt_run wr) hXs,CntIn.get HLk.out,Hc.out]
      obtain⟨cx,hcx⟩:∃ cx,cx=c X.data.toList:=⟨_,rfl⟩
      rw[<-hcx] at hlk
      have HCx:=hid hcx
      have HXd:=hid hXd
      clear hX hXd hcx hcc
      by_cases hpos:0<cx
      ·have hXp:X.data.toList∈M.pathsOf l:=List.count_pos_iff.1 (by rw[Hc.out,<-HCx.out];exact hpos)
       have hXn:X.toList.isEmpty=false:=not_empty rfl (HNe.out _ hXp).1
       have hpos':((cx:Int) > 0):=by omega
       have cF:=found_any Fj X w.heap.size wr hXn hFj hZj
       have HI2:Hid (M.IsMin (fun x=>((∃ q∈done,Brings c q.1 x)\/(1<c k.data.toList/\x=k.data.toList))\/(x∈FS.take (j+1)/\0<c x)) (firstB Fj X).data.toList):=by
        rw[firstB_data]
        refine(HIj.out.add (HNe.out _ hXp).1).congr (fun x=>?_)
        rw[List.take_succ_eq_append_getElem hlj]
        constructor
        ·rintro ((h|⟨h1,h2⟩)|rfl)
         ·exact .inl h
         ·exact .inr ⟨List.mem_append.2 (.inl h1),h2⟩
         ·exact .inr ⟨List.mem_append.2 (.inr (by simp[HXd.out])),by rw[<-HCx.out];exact hpos⟩
        ·rintro (h|⟨h1,h2⟩)
         ·exact .inl (.inl h)
         ·rcases List.mem_append.1 h1 with h1|h1
          ·exact .inl (.inr ⟨h1,h2⟩)
          ·simp at h1;exact .inr (by rw[h1,HXd.out])
       generalize firstB Fj X=F5 at cF HI2
       clear hXp hXn
       go_wp2_with fail
       refine cF.mono ?_
       rintro e w5 ⟨rfl,hF5,hZ5,hg5⟩
       have hrj5:=hrj.kept hg5 (fun e=>hob (Option.some.inj e)) (fun e=>hr2 (Option.some.inj e))
       have hgj5:=hgj.andThen hg5 (fun i hi=>.inr hi)
       clear cF hg5 hlk hFj hZj
       go_wp2
       go_roundw
       case rel=>exact⟨j+1,F5,by go_num,by omega,hrj5,hF5,hZ5,HI2,hgj5⟩
       case measure=>simp[intOf];omega
      ·have hpos':¬ ((cx:Int) > 0):=by omega
       have HI2:Hid (M.IsMin (fun x=>((∃ q∈done,Brings c q.1 x)\/(1<c k.data.toList/\x=k.data.toList))\/(x∈FS.take (j+1)/\0<c x)) Fj.data.toList):=by
        refine HIj.out.congr (fun x=>or_congr Iff.rfl ?_)
        rw[List.take_succ_eq_append_getElem hlj]
        constructor
        ·rintro ⟨h1,h2⟩;exact⟨List.mem_append.2 (.inl h1),h2⟩
        ·rintro ⟨h1,h2⟩
         rcases List.mem_append.1 h1 with h1|h1
         ·exact⟨h1,h2⟩
         ·simp at h1
          rw[h1,<-HXd.out,<-HCx.out] at h2
          exact absurd h2 hpos
       go_wp2
       go_roundw
       case rel=>exact⟨j+1,Fj,by go_num,by omega,hrj,hFj,hZj,HI2,hgj⟩
       case measure=>simp[intOf];omega
     ·have hjj:j=FS.length:=by omega
      have HI6:Hid (M.IsMin (fun x=>∃ q∈done++[(k.data.toList,Value.int .i64 n)],Brings c q.1 x) Fj.data.toList):=by
       refine HIj.out.congr (fun x=>?_)
       rw[hjj,List.take_length]
       constructor
       ·rintro ((⟨q,hq,h⟩|h)|⟨h1,h2⟩)
        ·exact⟨q,List.mem_append.2 (.inl hq),h⟩
        ·exact⟨(k.data.toList,Value.int .i64 n),List.mem_append.2 (.inr (by simp)),.inl h⟩
        ·exact⟨(k.data.toList,Value.int .i64 n),List.mem_append.2 (.inr (by simp)),.inr ⟨by rw[HFS.out];exact h1,h2⟩⟩
       ·rintro ⟨q,hq,h⟩
        rcases List.mem_append.1 hq with hq|hq
        ·exact .inl (.inl ⟨q,hq,h⟩)
        ·simp at hq
         subst hq
         rcases h with h|⟨h1,h2⟩
         ·exact .inl (.inr h)
         ·exact .inr ⟨by rw[<-HFS.out];exact h1,h2⟩
      have hB7:Below w.heap.size w wr:=hB40.grown hgj hB40.size (fun i hi=>by cases hi;exact Nat.le_refl _)
      clear hjj
      go_wp2
      go_roundw
      case rel=>exact⟨todo',_,cnt',Fj,hrj,hFj,hZj,HPm,HI6,hB7⟩
      case measure=>rw[hrj.left_eq,hrg.left_eq];exact hlt
def checkS(l:List M.Pk):Option M.Fa:=if M.lackingS l≠[] then some ⟨4,0,0,M.lackingS l⟩ else if M.barringS l≠[] then some ⟨5,0,0,M.barringS l⟩ else if M.clashingS l≠[] then some ⟨6,0,0,M.clashingS l⟩ else none
def CheckPost(R:Option M.Fa)(w:World)(e:Ending)(w':World):Prop:=
 Below w.heap.size w w'/\match R with
  | some f=>∃ ev,e=.returned ev/\ErrIs f w' ev
  | none=>e=.returned .nilIface
theorem checks_any(w:World):Calls Tryz.prog 179 #[] w fun e w'=>e=.returned (.slice (some ⟨w.heap.size,0,none⟩) 3 3)/\w'=w.alloc (.cells #[.int .i64 4,.func (.func 140) #[] #[],.int .i64 5,.func (.func 234) #[] #[],.int .i64 6,.func (.func 235) #[] #[]] 276):=by
 go_enter Tryz.func179,Tryz.ntmps179
 go_wp2
 go_ret
 exact⟨rfl,rfl⟩
theorem check_any(b:Nat)(l:List M.Pk)(w:World)(hl:SetIn w b l)(hn:l.length<=100000)(hs:∀ p∈l,ReadP p):
 Calls Tryz.prog 135 #[.map (some b)] w (CheckPost (checkS l) w):=by
 have cK:=checks_any w
 have c1:=fun wx (hb:Below w.heap.size w wx)=>firstLacking_any b l wx (hl.below hb) (by omega) hs
 have c2:=fun wx (hb:Below w.heap.size w wx)=>firstBarring_any b l wx (hl.below hb) (by omega) hs
 have c3:=fun wx (hb:Below w.heap.size w wx)=>firstShared_any b l wx (hl.below hb) hn hs
 generalize hW1:w.alloc (.cells #[.int .i64 4,.func (.func 140) #[] #[],.int .i64 5,.func (.func 234) #[] #[],.int .i64 6,.func (.func 235) #[] #[]] 276)=W1 at cK
 have HB1:Hid (Below w.heap.size w W1):=by rw[<-hW1];exact(Below.refl _ w).alloc ler _
 have s1:W1.heap.size=w.heap.size+1:=by rw[<-hW1];simp
 have HC:Hid (∀ j u,[Value.int .i64 4,.func (.func 140) #[] #[],.int .i64 5,.func (.func 234) #[] #[],.int .i64 6,.func (.func 235) #[] #[]][j]? = some u->W1.cell? ⟨w.heap.size,j,none⟩=some u):=by rw[<-hW1];exact fun j u hu=>new_at w _ _ j u hu
 clear hW1
 go_enter Tryz.func135,Tryz.ntmps135
 go_wp2_with fail
 refine(cK.mono fun e w' h=>⟨h.1,h.2.symm⟩:Calls _ _ _ _ fun e w'=>e=.returned (.slice (some ⟨w.heap.size,0,none⟩) 3 3)/\W1=w').mono ?_
 rintro e w' ⟨rfl,rfl⟩
 clear cK
 go_wp2
 go_loopw [4,5,8] (fun _ _ i wr=>∃ j:Nat,i=.int .i64 j/\j<=3/\Below W1.heap.size W1 wr/\Hid ((1<=j->M.lackingS l=[])/\(2<=j->M.barringS l=[])/\(3<=j->M.clashingS l=[]))) (fun _ _ i _=>3-(intOf i).toNat)
 case atStart=>exact⟨0,rfl,Nat.zero_le _,Below.refl _ _,fun h=>by omega,fun h=>by omega,fun h=>by omega⟩
 case round=>
  obtain⟨j,rfl,hj,hBr,HJ⟩:=hrel
  have HCr:Hid (∀ i u,[Value.int .i64 4,.func (.func 140) #[] #[],.int .i64 5,.func (.func 234) #[] #[],.int .i64 6,.func (.func 235) #[] #[]][i]? = some u->wr.cell? ⟨w.heap.size,i,none⟩=some u):=fun i u hu=>(hBr.cell (p:=⟨w.heap.size,i,none⟩) (by show w.heap.size < _;omega)).trans (HC.out i u hu)
  have hBw:Below w.heap.size w wr:=bt HB1.out hBr
  have hj4:j=0\/j=1\/j=2\/j=3:=by omega
  rcases hj4 with rfl|rfl|rfl|rfl
  ·have q0:=HCr.out 0 _ rfl
   have q1:=HCr.out 1 _ rfl
   generalize hW3:wr.alloc (.cells #[.int .i64 4,.func (.func 140) #[] #[]] 276)=W3
   have HB3:Hid (Below wr.heap.size wr W3):=by rw[<-hW3];exact(Below.refl _ wr).alloc ler _
   have r0:W3.cell? ⟨wr.heap.size,0,none⟩=some (.int .i64 4):=by rw[<-hW3];exact new_at wr [.int .i64 4,.func (.func 140) #[] #[]] _ 0 _ rfl
   have r1:W3.cell? ⟨wr.heap.size,1,none⟩=some (.func (.func 140) #[] #[]):=by rw[<-hW3];exact new_at wr [.int .i64 4,.func (.func 140) #[] #[]] _ 1 _ rfl
   go_wp2_with fail
   refine(c1 _ (bt hBw HB3.out)).mono ?_
   rintro e w4 ⟨T,rfl,hT,hB4⟩
   have HT:=hid hT
   have r2:w4.cell? ⟨wr.heap.size,0,none⟩=some (.int .i64 4):=(hB4.cell (p:=⟨wr.heap.size,0,none⟩) (World.block_lt_of_cell? _ _ r0)).trans r0
   have hB14:Below W1.heap.size W1 w4:=bt hBr (bt HB3.out hB4)
   have hBw4:Below w.heap.size w w4:=bt hBw (bt HB3.out hB4)
   clear hT q0 q1 r0 r1 hB4
   by_cases ht:T.toList.isEmpty=true
   ·have HJ2:Hid ((1<=1->M.lackingS l=[])/\(2<=1->M.barringS l=[])/\(3<=1->M.clashingS l=[])):=⟨fun _=>by rw[<-HT.out];exact str_eq ht,fun h=>by omega,fun h=>by omega⟩
    go_wp2
    go_roundw
    case rel=>exact⟨1,by go_num,by omega,hB14,HJ2⟩
    case measure=>simp[intOf]
   ·replace ht:T.toList.isEmpty=false:=by simpa using ht
    have HE:Hid (checkS l=some ⟨4,0,0,M.lackingS l⟩):=by
     show _ = _
     unfold checkS
     rw[if_pos (by rw[<-HT.out];exact str_ne ht)]
    have HEr:Hid (ErrIs ⟨4,0,0,M.lackingS l⟩ (w4.alloc (.cells #[.int .i64 4,.int .i64 0,.int .i64 0,.string T] 96)) (.iface 91 (.pointer (some ⟨w4.heap.size,0,none⟩)))):=by
     refine⟨_,rfl,?_⟩
     rw[<-str_of HT.out]
     exact fault_new (w:=w4) 4 0 0 T 96
    go_wp2
    go_ret
    refine⟨hBw4.alloc hBw4.size _,?_⟩
    rw[HE.out]
    exact⟨_,rfl,HEr.out⟩
  ·have q0:=HCr.out 2 _ rfl
   have q1:=HCr.out 3 _ rfl
   generalize hW3:wr.alloc (.cells #[.int .i64 5,.func (.func 234) #[] #[]] 276)=W3
   have HB3:Hid (Below wr.heap.size wr W3):=by rw[<-hW3];exact(Below.refl _ wr).alloc ler _
   have r0:W3.cell? ⟨wr.heap.size,0,none⟩=some (.int .i64 5):=by rw[<-hW3];exact new_at wr [.int .i64 5,.func (.func 234) #[] #[]] _ 0 _ rfl
   have r1:W3.cell? ⟨wr.heap.size,1,none⟩=some (.func (.func 234) #[] #[]):=by rw[<-hW3];exact new_at wr [.int .i64 5,.func (.func 234) #[] #[]] _ 1 _ rfl
   go_wp2_with fail
   refine(c2 _ (bt hBw HB3.out)).mono ?_
   rintro e w4 ⟨T,rfl,hT,hB4⟩
   have HT:=hid hT
   have r2:w4.cell? ⟨wr.heap.size,0,none⟩=some (.int .i64 5):=(hB4.cell (p:=⟨wr.heap.size,0,none⟩) (World.block_lt_of_cell? _ _ r0)).trans r0
   have hB14:Below W1.heap.size W1 w4:=bt hBr (bt HB3.out hB4)
   have hBw4:Below w.heap.size w w4:=bt hBw (bt HB3.out hB4)
   clear hT q0 q1 r0 r1 hB4
   by_cases ht:T.toList.isEmpty=true
   ·have HJ2:Hid ((1<=2->M.lackingS l=[])/\(2<=2->M.barringS l=[])/\(3<=2->M.clashingS l=[])):=⟨fun _=>HJ.out.1 (by omega),fun _=>by rw[<-HT.out];exact str_eq ht,fun h=>by omega⟩
    go_wp2
    go_roundw
    case rel=>exact⟨2,by go_num,by omega,hB14,HJ2⟩
    case measure=>simp[intOf]
   ·replace ht:T.toList.isEmpty=false:=by simpa using ht
    have HE:Hid (checkS l=some ⟨5,0,0,M.barringS l⟩):=by
     show _ = _
     unfold checkS
     rw[if_neg (by rw[HJ.out.1 (by omega)];simp),if_pos (by rw[<-HT.out];exact str_ne ht)]
    have HEr:Hid (ErrIs ⟨5,0,0,M.barringS l⟩ (w4.alloc (.cells #[.int .i64 5,.int .i64 0,.int .i64 0,.string T] 96)) (.iface 91 (.pointer (some ⟨w4.heap.size,0,none⟩)))):=by
     refine⟨_,rfl,?_⟩
     rw[<-str_of HT.out]
     exact fault_new (w:=w4) 5 0 0 T 96
    go_wp2
    go_ret
    refine⟨hBw4.alloc hBw4.size _,?_⟩
    rw[HE.out]
    exact⟨_,rfl,HEr.out⟩
  ·have q0:=HCr.out 4 _ rfl
   have q1:=HCr.out 5 _ rfl
   generalize hW3:wr.alloc (.cells #[.int .i64 6,.func (.func 235) #[] #[]] 276)=W3
   have HB3:Hid (Below wr.heap.size wr W3):=by rw[<-hW3];exact(Below.refl _ wr).alloc ler _
   have r0:W3.cell? ⟨wr.heap.size,0,none⟩=some (.int .i64 6):=by rw[<-hW3];exact new_at wr [.int .i64 6,.func (.func 235) #[] #[]] _ 0 _ rfl
   have r1:W3.cell? ⟨wr.heap.size,1,none⟩=some (.func (.func 235) #[] #[]):=by rw[<-hW3];exact new_at wr [.int .i64 6,.func (.func 235) #[] #[]] _ 1 _ rfl
   go_wp2_with fail
   refine(c3 _ (bt hBw HB3.out)).mono ?_
   rintro e w4 ⟨T,rfl,hT,hB4⟩
   have HT:=hid hT
   have r2:w4.cell? ⟨wr.heap.size,0,none⟩=some (.int .i64 6):=(hB4.cell (p:=⟨wr.heap.size,0,none⟩) (World.block_lt_of_cell? _ _ r0)).trans r0
   have hB14:Below W1.heap.size W1 w4:=bt hBr (bt HB3.out hB4)
   have hBw4:Below w.heap.size w w4:=bt hBw (bt HB3.out hB4)
   clear hT q0 q1 r0 r1 hB4
   by_cases ht:T.toList.isEmpty=true
   ·have HJ2:Hid ((1<=3->M.lackingS l=[])/\(2<=3->M.barringS l=[])/\(3<=3->M.clashingS l=[])):=⟨fun _=>HJ.out.1 (by omega),fun _=>HJ.out.2.1 (by omega),fun _=>by rw[<-HT.out];exact str_eq ht⟩
    go_wp2
    go_roundw
    case rel=>exact⟨3,by go_num,by omega,hB14,HJ2⟩
    case measure=>simp[intOf]
   ·replace ht:T.toList.isEmpty=false:=by simpa using ht
    have HE:Hid (checkS l=some ⟨6,0,0,M.clashingS l⟩):=by
     show _ = _
     unfold checkS
     rw[if_neg (by rw[HJ.out.1 (by omega)];simp),if_neg (by rw[HJ.out.2.1 (by omega)];simp),if_pos (by rw[<-HT.out];exact str_ne ht)]
    have HEr:Hid (ErrIs ⟨6,0,0,M.clashingS l⟩ (w4.alloc (.cells #[.int .i64 6,.int .i64 0,.int .i64 0,.string T] 96)) (.iface 91 (.pointer (some ⟨w4.heap.size,0,none⟩)))):=by
     refine⟨_,rfl,?_⟩
     rw[<-str_of HT.out]
     exact fault_new (w:=w4) 6 0 0 T 96
    go_wp2
    go_ret
    refine⟨hBw4.alloc hBw4.size _,?_⟩
    rw[HE.out]
    exact⟨_,rfl,HEr.out⟩
  ·have HE:Hid (checkS l=none):=by
    show _ = _
    unfold checkS
    rw[if_neg (by rw[HJ.out.1 (by omega)];simp),if_neg (by rw[HJ.out.2.1 (by omega)];simp),if_neg (by rw[HJ.out.2.2 (by omega)];simp)]
   go_wp2
   go_ret
   refine⟨hBw,?_⟩
   rw[HE.out]
   rfl
end Go.Proofs.YtgnfknjopafngabGreatDoor
