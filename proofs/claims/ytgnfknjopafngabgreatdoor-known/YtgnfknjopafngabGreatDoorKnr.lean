import Derived.Test.YtgnfknjopafngabGreatDoorKnq
set_option maxRecDepth 100000
set_option maxHeartbeats 2000000
namespace Go.Proofs.YtgnfknjopafngabGreatDoor
open Go.RowKit
theorem writeGroup_any(v:Value)(l:List M.Ch)(w:World)(hv:RowIn w 0 w.heap.size v l.length (chsCells l))(hsh:ShortC l):
 Calls Tryz.prog 68 #[v] w fun e w'=>e=.returned (.string ⟨(M.printedS [32,124,32] l).toArray⟩)/\Below w.heap.size w w':=by
 have cW:=writeChoices_any v l ⟨#[32,124,32]⟩ w hv hsh (by decide)
 have e0:(ByteArray.mk #[32,124,32]).data.toList=[32,124,32]:=rfl
 rw[e0] at cW
 obtain⟨av,cv,ev⟩:=hv.form
 subst ev
 generalize M.printedS [32,124,32] l=t at cW ⊢
 clear hv hsh
 go_enter Tryz.func68,Tryz.ntmps68
 go_wp2_with fail
 refine cW.mono ?_
 rintro e w2 ⟨rfl,hB2⟩
 go_wp2
 go_ret
 exact⟨rfl,hB2⟩
theorem printed_len(l:List M.Ch)(h:ShortC l):(M.printedS [32,124,32] l).length<=400000000:=by
 have h1:=joinS_len [32,124,32] 300010 (l.map M.chText) (fun x hx=>by
  obtain⟨c,hcm,rfl⟩:=List.mem_map.1 hx
  have:=h.2 c hcm
  exact chText_len c this.1 this.2.1 this.2.2)
 have h2:=h.1
 rw[List.length_map] at h1
 have h3:l.length*(300010+[32,124,32].length)<=1000*(300010+[32,124,32].length):=Nat.mul_le_mul_right _ h2
 unfold M.printedS
 simp only[List.length_cons,List.length_nil] at h1 h3
 omega
theorem writeGroups_any(v:Value)(l:List (List M.Ch))(sep:ByteArray)(w:World)(hv:NeedsIn w 0 w.heap.size v l)(hn:l.length<=1000)(hsh:∀ x∈l,ShortC x)(hsep:sep.size<=1000):
 Calls Tryz.prog 67 #[v,.string sep,.func (.func 68) #[] #[]] w fun e w'=>e=.returned (.string ⟨(M.joinS sep.data.toList (l.map (M.printedS [32,124,32]))).toArray⟩)/\Below w.heap.size w w':=by
 obtain⟨i0,hi0,hz0,hz1,hz2⟩:=info_parts infoStr
 obtain⟨av,cv,ev⟩:=hv.form
 subst ev
 have HSH:=hid hsh
 have HV:=hid hv
 have eR:∀ args w,(callFunc 68 args).run Tryz.prog w=.ok (.enter 68 args) w:=enters_of Tryz.func68 (by kernel_rfl) rfl
 clear hsh hv
 go_enter Tryz.func67,Tryz.ntmps67
 go_wp2_with fail
 go_loopw [7,9,12] (fun v _ i wr=>∃ (ts:List (List UInt8)) (k:Nat),i=.int .i64 k/\k<=l.length/\ts.length=k/\wr.ownsRow w.heap.size 9 1 v k (ts.map strV)/\Below w.heap.size w wr/\Hid (ts=(l.take k).map (M.printedS [32,124,32]))) (fun _ _ i _=>l.length-(intOf i).toNat)
 case atStart=>exact⟨[],0,rfl,Nat.zero_le _,rfl,World.ownsRow_nil _ _ _ _,Below.refl _ _,rfl⟩
 case round=>
  obtain⟨ts,k,rfl,hk,hlk,hown,hBr,HR⟩:=hrel
  have hsr:=hBr.size
  by_cases hlt:k<l.length
  ·obtain⟨g,au,cu,rfl,hg,hcell,hrow⟩:=HV.out.at k hlt
   have hb:=HSH.out _ (List.getElem_mem hlt)
   have cx:wr.cell? ⟨g,k,none⟩=some (.slice au l[k].length cu):=(hBr.cell (p:=⟨g,k,none⟩) hg).trans hcell
   have hrow2:RowIn wr 0 wr.heap.size (.slice au l[k].length cu) l[k].length (chsCells l[k]):=(hrow.keep fun g' o _ hg'=>belowS hBr hg').wide (Nat.zero_le _) hsr
   have cK:=writeGroup_any (.slice au l[k].length cu) l[k] wr hrow2 hb
   obtain⟨t,ht⟩:∃ t:List UInt8,t=(M.printedS [32,124,32]) l[k]:=⟨_,rfl⟩
   rw[<-ht] at cK
   have HT:Hid (ts++[t]=(l.take (k+1)).map (M.printedS [32,124,32])):=by
    show _ = _
    rw[List.take_succ_eq_append_getElem hlt,List.map_append,ht,HR.out];rfl
   clear hcell hrow hrow2 hb ht
   go_wp2_with fail
   refine cK.mono ?_
   rintro e w2 ⟨rfl,hB2⟩
   clear cK
   have hown2:=own_below hown hB2
   have hs2:=hB2.size
   go_wp2_with (at_builtin;refine wpList_append_own _ rfl _ _ 41 rfl w.heap.size 9 i0 (.string ⟨#[]⟩) 1 16 Tryz.underlying41 hi0 hz0 hz1 hz2 rfl (by decide) _ _ _ rfl (hown2.alloc _) ⟨w2.heap.size,0,none⟩ 1 1 [.string ⟨t.toArray⟩] rfl rfl ?c1 ?c2 ?c3 ?c4 ?c5 ?_)
   case c1=>exact one_new _ _ _
   case c2=>intro u hu;simp at hu;subst hu;rfl
   case c3=>unfold maxLen;omega
   case c4=>omega
   case c5=>simp;omega
   intro v' w3 hown' hgrow _
   have R1:w3.ownsRow w.heap.size 9 1 v' (k+1) ((ts++[t]).map strV):=by
    rw[List.map_append];exact hown'
   have R2:Below w.heap.size w w3:=
    ((hBr.trans (hB2.mono hsr)).alloc (by omega) _).grown hgrow (by simp;omega) (fun j hj=>(hown.lt j hj).1)
   clear hown' hgrow hown hown2
   go_wp2
   go_roundw
   case rel=>exact⟨_,k+1,by go_num,by omega,by simp;omega,R1,R2,HT⟩
   case measure=>simp[intOf];omega
  ·have hkk:k=l.length:=by omega
   have HR2:=HR.out
   rw[hkk,List.take_length] at HR2
   subst HR2
   have hown':=hown
   rw[<-hlk] at hown'
   have cJ:=join_lib _ sep _ _ wr hown' (by simpa using hn) hsep (fun x hx=>by
    obtain⟨c,hcm,rfl⟩:=List.mem_map.1 hx
    have:=printed_len _ (HSH.out c hcm)
    omega)
   obtain⟨aw,cw,ew⟩:=own_form hown
   subst ew
   subst hkk
   clear hown hown' HR hlk hk hlt
   go_wp2_with fail
   refine cJ.mono ?_
   rintro e w9 ⟨rfl,hB9⟩
   go_wp2
   go_ret
   exact⟨rfl,bt hBr hB9⟩
def flText(f:M.Fl):List UInt8:=[102,105,108,101,32]++f.path++[61]++f.content
theorem writeFile_walk(P C:ByteArray)(w:World)(hP:P.size<=8000)(hC:C.size<=8000):
 Calls Tryz.prog 72 #[.agg #[.string P,.string C]] w fun e w'=>∃ T:ByteArray,e=.returned (.string T)/\T.data.toList=[102,105,108,101,32]++P.data.toList++[61]++C.data.toList/\Below w.heap.size w w':=by
 go_enter Tryz.func72,Tryz.ntmps72
 go_wp2
 go_ret
 refine⟨_,rfl,?_,(Below.refl _ w).alloc ler _⟩
 simp only[cat_toList]
 rfl
theorem writeFile_any(f:M.Fl)(w:World)(hP:f.path.length<=8000)(hC:f.content.length<=8000):
 Calls Tryz.prog 72 #[.agg #[.string ⟨f.path.toArray⟩,.string ⟨f.content.toArray⟩]] w fun e w'=>e=.returned (.string ⟨(flText f).toArray⟩)/\Below w.heap.size w w':=by
 have sz:∀ l:List UInt8,(ByteArray.mk l.toArray).size=l.length:=fun l=>by rw[<-len_data]
 refine(writeFile_walk ⟨f.path.toArray⟩ ⟨f.content.toArray⟩ w (by rw[sz];exact hP) (by rw[sz];exact hC)).mono fun e w' h=>?_
 obtain⟨T,h1,h2,h3⟩:=h
 refine⟨?_,h3⟩
 rw[h1]
 have:T=⟨(flText f).toArray⟩:=bytes_of h2
 rw[this]
theorem writeFiles_any(v:Value)(l:List M.Fl)(sep:ByteArray)(w:World)(hv:RowIn w 0 w.heap.size v l.length (flsCells l))(hn:l.length<=1000)(hsh:∀ f∈l,f.path.length<=8000/\f.content.length<=8000)(hsep:sep.size<=1000):
 Calls Tryz.prog 71 #[v,.string sep,.func (.func 72) #[] #[]] w fun e w'=>e=.returned (.string ⟨(M.joinS sep.data.toList (l.map flText)).toArray⟩)/\Below w.heap.size w w':=by
 obtain⟨i0,hi0,hz0,hz1,hz2⟩:=info_parts infoStr
 obtain⟨av,cv,ev⟩:=hv.form
 subst ev
 have HSH:=hid hsh
 have HV:=hid hv
 have eR:∀ args w,(callFunc 72 args).run Tryz.prog w=.ok (.enter 72 args) w:=enters_of Tryz.func72 (by kernel_rfl) rfl
 clear hsh hv
 go_enter Tryz.func71,Tryz.ntmps71
 go_wp2_with fail
 go_loopw [7,9,12] (fun v _ i wr=>∃ (ts:List (List UInt8)) (k:Nat),i=.int .i64 k/\k<=l.length/\ts.length=k/\wr.ownsRow w.heap.size 9 1 v k (ts.map strV)/\Below w.heap.size w wr/\Hid (ts=(l.take k).map flText)) (fun _ _ i _=>l.length-(intOf i).toNat)
 case atStart=>exact⟨[],0,rfl,Nat.zero_le _,rfl,World.ownsRow_nil _ _ _ _,Below.refl _ _,rfl⟩
 case round=>
  obtain⟨ts,k,rfl,hk,hlk,hown,hBr,HR⟩:=hrel
  have hsr:=hBr.size
  by_cases hlt:k<l.length
  ·obtain⟨g,rfl,hg,hcap,hc⟩:=HV.out.cellAt (by omega)
   have k0:=fl_cell hlt
   have k1:=fl_cell2 hlt
   rw[Nat.mul_comm] at k0 k1
   have hb:=HSH.out _ (List.getElem_mem hlt)
   have cx:wr.cell? ⟨g,k*2,none⟩=some (.string ⟨l[k].path.toArray⟩):=(hBr.cell (p:=⟨g,k*2,none⟩) hg).trans (hc _ _ k0)
   have cy:wr.cell? ⟨g,k*2+1,none⟩=some (.string ⟨l[k].content.toArray⟩):=(hBr.cell (p:=⟨g,k*2+1,none⟩) hg).trans (hc _ _ k1)
   have cK:=fun wx=>writeFile_any l[k] wx hb.1 hb.2
   obtain⟨t,ht⟩:∃ t:List UInt8,t=flText l[k]:=⟨_,rfl⟩
   rw[<-ht] at cK
   have HT:Hid (ts++[t]=(l.take (k+1)).map flText):=by
    show _ = _
    rw[List.take_succ_eq_append_getElem hlt,List.map_append,ht,HR.out];rfl
   clear hc k0 k1 hb ht
   go_wp2_with fail
   refine(cK _).mono ?_
   rintro e w2 ⟨rfl,hB2⟩
   clear cK
   replace hB2:Below wr.heap.size wr w2:=bt ((Below.refl _ wr).alloc ler _) hB2
   have hown2:=own_below hown hB2
   have hs2:=hB2.size
   go_wp2_with (at_builtin;refine wpList_append_own _ rfl _ _ 41 rfl w.heap.size 9 i0 (.string ⟨#[]⟩) 1 16 Tryz.underlying41 hi0 hz0 hz1 hz2 rfl (by decide) _ _ _ rfl (hown2.alloc _) ⟨w2.heap.size,0,none⟩ 1 1 [.string ⟨t.toArray⟩] rfl rfl ?c1 ?c2 ?c3 ?c4 ?c5 ?_)
   case c1=>exact one_new _ _ _
   case c2=>intro u hu;simp at hu;subst hu;rfl
   case c3=>unfold maxLen;omega
   case c4=>omega
   case c5=>simp;omega
   intro v' w3 hown' hgrow _
   have R1:w3.ownsRow w.heap.size 9 1 v' (k+1) ((ts++[t]).map strV):=by
    rw[List.map_append];exact hown'
   have R2:Below w.heap.size w w3:=
    ((hBr.trans (hB2.mono hsr)).alloc (by omega) _).grown hgrow (by simp;omega) (fun j hj=>(hown.lt j hj).1)
   clear hown' hgrow hown hown2
   go_wp2
   go_roundw
   case rel=>exact⟨_,k+1,by go_num,by omega,by simp;omega,R1,R2,HT⟩
   case measure=>simp[intOf];omega
  ·have hkk:k=l.length:=by omega
   have HR2:=HR.out
   rw[hkk,List.take_length] at HR2
   subst HR2
   have hown':=hown
   rw[<-hlk] at hown'
   have cJ:=join_lib _ sep _ _ wr hown' (by simpa using hn) hsep (fun x hx=>by
    obtain⟨c,hcm,rfl⟩:=List.mem_map.1 hx
    have:=HSH.out c hcm
    unfold flText
    simp only[List.length_append,List.length_cons,List.length_nil]
    omega)
   obtain⟨aw,cw,ew⟩:=own_form hown
   subst ew
   subst hkk
   clear hown hown' HR hlk hk hlt
   go_wp2_with fail
   refine cJ.mono ?_
   rintro e w9 ⟨rfl,hB9⟩
   go_wp2
   go_ret
   exact⟨rfl,bt hBr hB9⟩
structure One (w W:World) (nv bv fv:Value):Prop where
 b:Below w.heap.size w W
 c2:W.cell? ⟨w.heap.size,2,none⟩=some nv
 c3:W.cell? ⟨w.heap.size,3,none⟩=some bv
 c4:W.cell? ⟨w.heap.size,4,none⟩=some fv
 lt:w.heap.size<W.heap.size
theorem One.below{w W W':World}{nv bv fv:Value}(h:One w W nv bv fv)(hb:Below W.heap.size W W'):One w W' nv bv fv:=
 ⟨bt h.b hb,(hb.cell (p:=⟨w.heap.size,2,none⟩) h.lt).trans h.c2,(hb.cell (p:=⟨w.heap.size,3,none⟩) h.lt).trans h.c3,(hb.cell (p:=⟨w.heap.size,4,none⟩) h.lt).trans h.c4,Nat.lt_of_lt_of_le h.lt hb.size⟩
theorem One.push{w W W':World}{nv bv fv L:Value}{o:Obj}{n:Nat}{xs:List Value}(h:One w W nv bv fv)(ho:W.ownsRow (w.heap.size+1) 9 1 L n xs)(hg:(W.alloc o).grownBy W' L.ownBlock):One w W' nv bv fv:=by
 have h1:=h.below ((Below.refl _ W).alloc ler o)
 have hne:some w.heap.size≠L.ownBlock:=fun e=>by have:=(ho.lt _ e.symm).1;omega
 have k:=fun j=>(grown_keep hg w.heap.size h1.lt hne j).1
 refine⟨h1.b.grown hg (Nat.le_of_lt h1.lt) (fun j hj=>by have:=(ho.lt j hj).1;omega),(k 2).trans h1.c2,(k 3).trans h1.c3,(k 4).trans h1.c4,Nat.lt_of_lt_of_le h1.lt hg.size⟩
theorem own_lit(w:World)(B:Nat)(X:Value)(t:TypeId)(hb:B<=w.heap.size):(w.alloc (.cells #[X] t)).ownsRow B t 1 (.slice (some ⟨w.heap.size,0,none⟩) 1 1) 1 [X]:=
 ⟨by simp,.inr ⟨w.heap.size,1,#[X],rfl,hb,heap_alloc_new w _,Nat.le_refl _,by unfold maxLen;omega,by simp,by simp⟩⟩
theorem files_join:∀ l:List M.Fl,l≠[]->10 :: M.joinS [10] (l.map flText)=l.flatMap M.fileText
 | [],h=>absurd rfl h
 | [f],_=>by simp[M.joinS,flText,M.fileText]
 | f :: g :: r,_=>by
  have ih:=files_join (g :: r) (by simp)
  rw[List.flatMap_cons,<-ih]
  simp[M.joinS,flText,M.fileText]
def needsPart(p:M.Pk):List (List UInt8):=if p.needs=[] then [] else [M.needsW++M.joinS [44,32] (p.needs.map (M.printedS [32,124,32]))]
def barsPart(p:M.Pk):List (List UInt8):=if p.bars=[] then [] else [M.barsW++M.printedS [44,32] p.bars]
def filesPart(p:M.Pk):List (List UInt8):=if p.files=[] then [] else [M.joinS [10] (p.files.map flText)]
theorem print_is(p:M.Pk):M.joinS [10] (([M.headS p]++needsPart p)++barsPart p++filesPart p)=M.printS p:=by
 have e0:M.printS p=M.headS p++M.needsText p.needs++M.barsText p.bars++p.files.flatMap M.fileText:=rfl
 rw[e0]
 unfold needsPart barsPart filesPart M.needsText M.barsText
 by_cases h1:p.needs=[] <;> by_cases h2:p.bars=[] <;> by_cases h3:p.files=[] <;> simp[h1,h2,h3,M.joinS,M.needsW,M.barsW,<-files_join]
theorem needsPart_len(p:M.Pk)(h:ShortP p):∀ x∈needsPart p,x.length<=1000000000000:=by
 intro x hx
 unfold needsPart at hx
 split at hx
 ·simp at hx
 ·simp only[List.mem_singleton] at hx
  subst hx
  have h1:=joinS_len [44,32] 400000000 (p.needs.map (M.printedS [32,124,32])) (fun y hy=>by
   obtain⟨c,hcm,rfl⟩:=List.mem_map.1 hy
   exact printed_len c (h.needs c hcm))
  rw[List.length_map] at h1
  have h2:p.needs.length*(400000000+[44,32].length)<=1000*(400000000+[44,32].length):=Nat.mul_le_mul_right _ h.needn
  simp only[List.length_append,List.length_cons,List.length_nil,M.needsW] at h1 h2 ⊢
  omega
theorem barsPart_len(p:M.Pk)(h:ShortP p):∀ x∈barsPart p,x.length<=1000000000000:=by
 intro x hx
 unfold barsPart at hx
 split at hx
 ·simp at hx
 ·simp only[List.mem_singleton] at hx
  subst hx
  have h1:=joinS_len [44,32] 300010 (p.bars.map M.chText) (fun y hy=>by
   obtain⟨c,hcm,rfl⟩:=List.mem_map.1 hy
   have:=h.bars.2 c hcm
   exact chText_len c this.1 this.2.1 this.2.2)
  rw[List.length_map] at h1
  have h2:p.bars.length*(300010+[44,32].length)<=1000*(300010+[44,32].length):=Nat.mul_le_mul_right _ h.bars.1
  unfold M.printedS
  simp only[List.length_append,List.length_cons,List.length_nil,M.barsW] at h1 h2 ⊢
  omega
theorem filesPart_len(p:M.Pk)(h:ShortP p):∀ x∈filesPart p,x.length<=1000000000000:=by
 intro x hx
 unfold filesPart at hx
 split at hx
 ·simp at hx
 ·simp only[List.mem_singleton] at hx
  subst hx
  have h1:=joinS_len [10] 300000 (p.files.map flText) (fun y hy=>by
   obtain⟨c,hcm,rfl⟩:=List.mem_map.1 hy
   have:=h.files c hcm
   unfold flText
   simp only[List.length_append,List.length_cons,List.length_nil]
   omega)
  rw[List.length_map] at h1
  have h2:p.files.length*(300000+[10].length)<=1000*(300000+[10].length):=Nat.mul_le_mul_right _ h.filen
  simp only[List.length_cons,List.length_nil] at h1 h2
  omega
theorem parts_len(p:M.Pk)(h:ShortP p):(M.joinS [10] (([M.headS p]++needsPart p)++barsPart p++filesPart p)).length<=100000000000000/\(([M.headS p]++needsPart p)++barsPart p++filesPart p).length<=4:=by
 have l1:(needsPart p).length<=1:=by unfold needsPart;split <;> simp
 have l2:(barsPart p).length<=1:=by unfold barsPart;split <;> simp
 have l3:(filesPart p).length<=1:=by unfold filesPart;split <;> simp
 have hn:(([M.headS p]++needsPart p)++barsPart p++filesPart p).length<=4:=by simp only[List.length_append,List.length_cons,List.length_nil];omega
 refine⟨?_,hn⟩
 have h1:=joinS_len [10] 1000000000000 (([M.headS p]++needsPart p)++barsPart p++filesPart p) (fun x hx=>by
  rcases List.mem_append.1 hx with hx|hx
  ·rcases List.mem_append.1 hx with hx|hx
   ·rcases List.mem_append.1 hx with hx|hx
    ·simp only[List.mem_singleton] at hx
     subst hx
     have:=h.name
     have:=h.ver
     unfold M.headS
     simp only[List.length_append,List.length_cons,List.length_nil]
     omega
    ·exact needsPart_len p h x hx
   ·exact barsPart_len p h x hx
  ·exact filesPart_len p h x hx)
 have h2:=Nat.mul_le_mul_right (1000000000000+[10].length) hn
 simp only[List.length_cons,List.length_nil] at h1 h2
 omega
end Go.Proofs.YtgnfknjopafngabGreatDoor
