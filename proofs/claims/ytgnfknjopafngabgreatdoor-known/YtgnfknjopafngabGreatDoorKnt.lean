import Derived.RangeFuncBox
import Derived.Shelf.RegionOpen
import Derived.OwnWalkIn
import Derived.TacticsInMore
import Derived.LoopNIn
import Derived.LoopIn
import Derived.Test.YtgnfknjopafngabGreatDoorKnd
import Derived.Test.YtgnfknjopafngabGreatDoorKns
import Derived.Deep.DeepCutAuto
set_option maxRecDepth 100000
set_option maxHeartbeats 8000000
namespace Go.Proofs.YtgnfknjopafngabGreatDoor
open Go.RowKit Go.Maps Go.Shelf
attribute [local go_sem] Oper.semAt_some
def nmAt(l:List M.Pk)(k:Nat):ByteArray:=⟨((M.sortN (l.map M.Pk.name))[k]?.getD []).toArray⟩
def txAt(l:List M.Pk)(k:Nat):ByteArray:=⟨((M.textsS l)[k]?.getD []).toArray⟩
theorem names_len(l:List M.Pk):(M.sortN (l.map M.Pk.name)).length=l.length:=by rw[(M.sortN_perm _).length_eq,List.length_map]
theorem at_names{l:List M.Pk}(ha:M.Apart l){k:Nat}(hk:k<l.length):∃ p∈l,(M.sortN (l.map M.Pk.name))[k]? = some p.name/\nmAt l k=⟨p.name.toArray⟩/\txAt l k=⟨(M.printS p).toArray⟩:=by
 have hr:k<(M.sortN (l.map M.Pk.name)).length:=by rw[names_len];exact hk
 obtain⟨p,hp,e⟩:=names_get hr
 have e1:(M.sortN (l.map M.Pk.name))[k]? = some p.name:=by rw[List.getElem?_eq_getElem hr,e]
 refine⟨p,hp,e1,?_,?_⟩
 ·unfold nmAt;rw[e1];rfl
 ·unfold txAt M.textsS;rw[List.getElem?_map,e1,Option.map_some,M.textOf_mem ha hp];rfl
theorem Below.chg{B:Nat}{F:Nat->Prop}{u w w':World}(h:Below B u w)(hc:Chg F w w')(hF:∀ j,F j->B<=j)(hB:B<=u.heap.size):Below B u w':=
 ⟨hc.os.trans h.os,hc.tape.trans h.tape,hc.output.trans h.output,Nat.le_trans h.size hc.size,fun k hk=>(hc.block k (by have:=h.size;omega) (fun f=>by have:=hF k f;omega)).trans (h.block k hk)⟩
theorem each_on(b n:Nat)(l:List M.Pk)(w0:World)(hl:SetIn w0 b l)(hn:l.length<=1000000)(hs:∀ p∈l,ReadP p)(h1:1<=n):
 SeqOn Fence.wide n Tryz.prog 90 #[.map (some b)] #[] l.length (fun k=>#[.string (nmAt l k),.string (txAt l k)]) w0 (fun _=>True):=by
 intro lp J W c _ hB0 hJa hJc hY hJ0
 have cN:=callsIn_wide (n:=n-1).2 (names_any b l W (hl.below hB0) hn)
 have HL:=hid hl
 have HS:=hid hs
 have HA:=hid hl.apart
 have HJa:=hid hJa
 have HJc:=hid hJc
 have HY:=hid hY
 have HJ0:=hid hJ0
 generalize hr:nmCells (M.sortN (l.map M.Pk.name))=r at cN
 have HR:=hid hr
 clear hl hs hJa hJc hY hJ0 hr
 simp only[List.append_toArray,List.nil_append,List.cons_append,List.append_nil]
 refine callsIn_of_wp Tryz.func90 rfl trivial ?_ rfl
 simp only[Tryz.ntmps90,List.size_toArray,List.length_cons,List.length_nil,Nat.reduceAdd,Nat.reduceSub,Array.replicate_succ,Array.replicate_zero,List.push_toArray,List.append_toArray,List.nil_append,List.cons_append]
 gi_wp2_with (refine⟨trivial,?_⟩;gi_at_call 141;refine cN.mono ?_;rintro e w1 ⟨v,rfl,hrow,hB1⟩;obtain⟨a1,c1,e1⟩:=own_form hrow;subst e1;have HRow:Hid (w1.ownsRow W.heap.size 9 1 (.slice a1 l.length c1) l.length r):=hrow;clear hrow cN)
 gi_loopw [5,9] (fun _ i wr=>∃ (k:Nat) (c:Nat->Prop),i=.int .i64 k/\k<=l.length/\Hid (J k c wr)/\Hid (wr.ownsRow W.heap.size 9 1 (.slice a1 l.length c1) l.length r)/\Hid (∀ g,(Value.slice a1 l.length c1).ownBlock=some g->¬ c g)/\Below w0.heap.size w0 wr) (fun _ i _=>l.length-(intOf i).toNat)
 case atStart=>
  refine⟨0,c,rfl,Nat.zero_le _,HJa.out 0 c W w1 HJ0.out (Chg.below hB1),HRow.out,fun g hg hc=>?_,bt hB0 hB1⟩
  have:=(HJc.out 0 c W g HJ0.out hc).2
  have:=(HRow.out.lt g hg).1
  omega
 case round=>
  obtain⟨k,c,rfl,hk,HJ,HRw,HG,hBr⟩:=hrel
  by_cases hlt:k<l.length
  ·obtain⟨p,hp,hnm,eN,eT⟩:=at_names HA.out hlt
   obtain⟨g,e1,hg,hcap,hc⟩:=((RowIn.own HRw.out).wide (Nat.zero_le _) ler).cellAt (by omega)
   subst e1
   have c0:wr.cell? ⟨g,k,none⟩=some (.string (nmAt l k)):=hc k _ (by rw[<-HR.out];unfold nmCells;rw[List.getElem?_map,hnm,eN];rfl)
   have hYd:(nmAt l k).data.toList=p.name:=by rw[eN]
   have hYs:(nmAt l k).size<=maxLen:=by have:=(HS.out p hp).short.name;rw[size_of hYd];unfold maxLen;omega
   obtain⟨f,hm,hv⟩:=HL.out.below hBr
   have hr1:(Instr.lookup 108 (.map (some b)) (.string (nmAt l k)) false).run Tryz.prog wr=.ok (f p) wr:=by
    rw[hm.look Tryz.underlying9 setMap (zeroPk_run wr) hYs,hYd,(look_mem hm.keys).2 (List.mem_map.2 ⟨p,hp,rfl⟩),Option.getD_some]
   have cO:CallsIn Fence.wide (n-1) Tryz.prog 34 #[f p] wr (fun e w'=>e=.returned (.string (txAt l k))/\Below wr.heap.size wr w'):=callsIn_wide.2 ((oneForm_any p (f p) wr (hv p hp) (HS.out p hp).short).mono (fun e w' ⟨T,e1,e2,e3⟩=>⟨by rw[e1,eT,<-e2],e3⟩))
   generalize f p=fv at hr1 cO
   clear hm hv hYd hc hnm eN eT
   gi_wp2_with (refine⟨trivial,?_⟩;gi_at_call 34;refine cO.mono ?_;rintro e w3 ⟨rfl,hB3⟩;obtain⟨fn,tmps,assign,body,hy,hR⟩:=HY.out k c w3 hlt (HJa.out k c wr w3 HJ.out (Chg.below hB3)))
   refine hR.mono ?_
   rintro e w4 ⟨rfl,c',hJ',hC,hc'⟩
   have hrow3:=Chg.own (F:=fun _=>False) (Chg.below hB3) HRw.out (fun _ _ h=>h)
   have HRw4:Hid (w4.ownsRow W.heap.size 9 1 (.slice (some ⟨g,0,none⟩) l.length c1) l.length r):=hC.own hrow3 HG.out
   have HG4:Hid (∀ j,(Value.slice (some ⟨g,0,none⟩) l.length c1).ownBlock=some j->¬ c' j):=fun j hj h=>by
    rcases hc' j h with h|h
    ·exact HG.out j hj h
    ·have:=(hrow3.lt j hj).2
     omega
   have hB4:Below w0.heap.size w0 w4:=Below.chg (bt hBr hB3) hC (fun j hj=>(HJc.out k c wr j HJ.out hj).1) ler
   have HJ4:Hid (J (k+1) c' w4):=hJ'
   clear hJ' hC hc' hrow3 hy hR
   gi_wp2
   go_roundw
   case rel=>exact⟨k+1,c',by go_num,by omega,HJ4,HRw4,HG4,hB4⟩
   case measure=>simp[intOf];omega
  ·have HE:Hid (k=l.length):=by show _ = _;omega
   gi_wp2
   go_end0
   exact⟨⟨_,rfl⟩,c,by rw[<-HE.out];exact HJ.out⟩
def addedS(there:List M.Pk)(texts:List (List UInt8)):Sum M.Fa (List M.Pk):=match M.readAllS texts 0 [] with
 | .inl f=>.inl f
 | .inr fresh=>match M.addAllS fresh 0 there with
  | .inl f=>.inl f
  | .inr _=>.inr fresh
def AddedPost(R:Sum M.Fa (List M.Pk))(w:World)(e:Ending)(w':World):Prop:=
 Below w.heap.size w w'/\match R with
  | .inl f=>∃ ev,e=.returned (.tuple #[.map none,ev])/\ErrIs f w' ev
  | .inr fresh=>∃ b,e=.returned (.tuple #[.map (some b),.nilIface])/\SetIn w' b fresh
theorem added_read{there fresh:List M.Pk}{texts:List (List UInt8)}(h:addedS there texts=.inr fresh):M.readAllS texts 0 []=.inr fresh/\M.addAllS fresh 0 there=.inr (there++fresh):=by
 unfold addedS at h
 cases hr:M.readAllS texts 0 [] with
 | inl f=>rw[hr] at h;cases h
 | inr l=>
  rw[hr] at h
  simp only at h
  cases ha:M.addAllS l 0 there with
  | inl f=>rw[ha] at h;cases h
  | inr all=>
   rw[ha] at h
   cases h
   exact⟨rfl,by rw[ha,M.addAll_is _ _ _ _ ha]⟩
theorem read_all{texts:List (List UInt8)}{fresh:List M.Pk}(h:M.readAllS texts 0 []=.inr fresh):fresh.length=texts.length/\∀ p∈fresh,ReadP p:=by
 refine⟨by have:=M.readAll_len _ _ _ _ h;simpa using this,fun p hp=>?_⟩
 rcases M.readAll_mem _ _ _ _ h p hp with h|⟨t,_,h⟩
 ·cases h
 ·exact readP h
theorem addAll_any(b:Nat)(there:List M.Pk)(xv:Value)(texts:List ByteArray)(w:World)(hM:MaxIs w)(hE:ErrLaid w)(hl:SetIn w b there)(hx:TxtsIn w xv texts)(hxn:texts.length<=10000)(hxs:∀ t∈texts,t.size<=8192):
 Calls Tryz.prog 133 #[.map (some b),xv] w (AddedPost (addedS there (texts.map fun t=>t.data.toList)) w):=by
 have cR:=readAll_any xv texts w hM hE hx (by omega) hxs
 have hTl:(texts.map fun t=>t.data.toList).length<=10000:=by rw[List.length_map];exact hxn
 generalize (texts.map fun t=>t.data.toList)=T at cR hTl ⊢
 have HL:=hid hl
 clear hM hE hl hx hxs
 go_enter Tryz.func133,Tryz.ntmps133
 go_wp2_with fail
 refine cR.mono ?_
 rintro e w2 ⟨hB2,hm⟩
 clear cR
 cases hr:M.readAllS T 0 [] with
 | inl f=>
  rw[hr] at hm
  obtain⟨ev,rfl,fb,rfl,hF⟩:=hm
  have HP:Hid (addedS there T=.inl f):=by show _ = _;unfold addedS;rw[hr]
  have HF:Hid (ErrIs f w2 (.iface 91 (.pointer (some ⟨fb,0,none⟩)))):=⟨fb,rfl,hF⟩
  clear hr hF
  go_wp2
  refine bodyPost_ret (v:=.tuple #[.map none,.iface 91 (.pointer (some ⟨fb,0,none⟩))]) (by simp[results,Tryz.results133,go_sem]) rfl ⟨hB2,?_⟩
  rw[HP.out]
  exact⟨_,rfl,HF.out⟩
 | inr fresh=>
  rw[hr] at hm
  obtain⟨v,rfl,hv⟩:=hm
  obtain⟨k1,k2⟩:=read_all hr
  have cA:=add_any b there fresh v w2 (HL.out.below hB2) hv (by omega) (fun p hp=>Nat.le_trans (k2 p hp).short.name (by omega))
  have HR:=hid hr
  obtain⟨av,cv,ev⟩:=hv.form
  subst ev
  clear hr hv k1 k2
  go_wp2_with fail
  refine cA.mono ?_
  rintro e w3 ⟨hB3,hm⟩
  have hB:Below w.heap.size w w3:=bt hB2 hB3
  clear cA hB3
  cases ha:M.addAllS fresh 0 there with
  | inl f=>
   rw[ha] at hm
   obtain⟨ev,rfl,fb,rfl,hF⟩:=hm
   have HP:Hid (addedS there T=.inl f):=by show _ = _;unfold addedS;rw[HR.out];simp only[ha]
   have HF:Hid (ErrIs f w3 (.iface 91 (.pointer (some ⟨fb,0,none⟩)))):=⟨fb,rfl,hF⟩
   clear ha hF
   go_wp2
   refine bodyPost_ret (v:=.tuple #[.map none,.iface 91 (.pointer (some ⟨fb,0,none⟩))]) (by simp[results,Tryz.results133,go_sem]) rfl ⟨hB,?_⟩
   rw[HP.out]
   exact⟨_,rfl,HF.out⟩
  | inr all=>
   rw[ha] at hm
   obtain⟨nb,rfl,hS⟩:=hm
   have HP:Hid (addedS there T=.inr fresh):=by show _ = _;unfold addedS;rw[HR.out];simp only[ha]
   have HS:=hid hS
   clear ha hS
   go_wp2
   refine bodyPost_ret (v:=.tuple #[.map (some nb),.nilIface]) (by simp[results,Tryz.results133,go_sem]) rfl ⟨hB,?_⟩
   rw[HP.out]
   exact⟨_,rfl,HS.out⟩
theorem DiskAt.below{w w':World}{d:Nat}{hv sv lv:Value}{left:Int}{dead:Bool}{held seen:List (List UInt8)}(h:DiskAt w d hv sv lv left dead held seen)(hb:Below w.heap.size w w'):DiskAt w' d hv sv lv left dead held seen:=
 have hg:=grown_of_below hb none
 ⟨(hb.block d (Array.getElem?_eq_some_iff.1 h.blk).1).trans h.blk,h.held.kept hg (fun j hj=>by cases hj) (by cases hv.ownBlock <;> simp),h.seen.kept hg (fun j hj=>by cases hj) (by cases sv.ownBlock <;> simp),h.apart⟩
theorem arrSize:(Tryz.prog.info? 232).map (·.size)=some 64:=by kernel_rfl
theorem nil_Read (a : Addr) (w : World) : (nilAhead 488 57 (.pointer (some a)) "Read").run Tryz.prog w = .ok (some false) w := by kernel_rfl
theorem meth_Read (a : Addr) (w : World) : (method 488 57 (.pointer (some a)) "Read").run Tryz.prog w = .ok (311, .pointer (some a)) w := by kernel_rfl
theorem sector_any(k d half n:Nat)(hv sv lv:Value)(left:Int)(dead:Bool)(held seen:List (List UInt8))(w:World)(hk:KnownAt w k d half)(h:DiskAt w d hv sv lv left dead held seen)(hn:n<seen.length):
 Calls Tryz.prog 130 #[.pointer (some ⟨k,0,none⟩),.int .i64 n] w fun e w'=>e=.returned (.agg (seen[n].map byteV).toArray)/\Below w.heap.size w w':=by
 have n1:=nil_Read
 have n2:=meth_Read
 have hX0:seen[n].length=64:=by obtain⟨_,_,_,_,_,_,_,_,_,_,_,_,_,h9⟩:=h.seen.at hn;exact h9
 have q0:w.cell? ⟨k,0,none⟩=some (.iface 57 (.pointer (some ⟨d,0,none⟩))):=by rw[cell_of_row w _ 0 _ _ (0,0) hk];rfl
 have hkl:k<w.heap.size:=(Array.getElem?_eq_some_iff.1 hk).1
 have HD:=hid h
 have cR:=fun wx (hb:Below w.heap.size w wx)=>dRead_any d n hv sv lv left dead held seen wx (HD.out.below hb) hn
 clear h hk
 go_enter Tryz.func130,Tryz.ntmps130
 go_wp2
 generalize hA1:w.alloc (.cells _ 232)=A1
 generalize hA2:A1.alloc (.cells _ 232)=A2
 have s1:A1.heap.size=w.heap.size+1:=by rw[<-hA1];simp
 have b1:Below w.heap.size w A1:=by rw[<-hA1];exact(Below.refl _ w).alloc ler _
 have b2:Below w.heap.size w A2:=by rw[<-hA2];exact bt b1 ((Below.refl _ A1).alloc ler _)
 obtain⟨Z4,hZ4,n1'⟩:∃ Z:Array Value,Z.size=64/\A2.heap[w.heap.size]? = some (.cells Z 232 (0,0)):=⟨_,rfl,by rw[<-hA2,heap_alloc_old (w:=A1) (o:=_) (h:=by omega),<-hA1];exact heap_alloc_new w _⟩
 obtain⟨Z,hZ,n2'⟩:∃ Z:Array Value,Z.size=64/\A2.heap[w.heap.size+1]? = some (.cells Z 232 (0,0)):=⟨_,rfl,by rw[<-hA2,<-s1];exact heap_alloc_new A1 _⟩
 have p0:=(b2.cell (p:=⟨k,0,none⟩) hkl).trans q0
 have s2:w.heap.size+1<A2.heap.size:=(Array.getElem?_eq_some_iff.1 n2').1
 have hcp:∀ w3 h,Below A2.heap.size A2 w3->w3.heap[h]? = some (.cells (seen[n].map byteV).toArray 5 (0,0))->(Builtin.copy_ #[102,102] 3 #[.slice (some ⟨w.heap.size+1,0,none⟩) 64 64,.slice (some ⟨h,0,none⟩) 64 64]).run Tryz.prog w3=.ok (.int .i64 64) (w3.setRow (w.heap.size+1) (seen[n].map byteV).toArray):=
  fun w3 h hb hh=>copy64 3 ((hb.block _ s2).trans n2') hZ (fun j u hu=>by rw[cell_of_row w3 h j _ _ (0,0) hh];simpa using hu) hX0
 clear hA1 hA2
 go_region_with (go_at_call 311;refine(cR _ (bt b2 (below_same A2 1))).mono ?_;rintro e w3 ⟨rfl,hw3,hB3⟩;have hc3:=hcp w3 A2.heap.size (bt (below_same A2 1) hB3) hw3)
 have hx:=(hB3.block (w.heap.size+1) s2).trans n2'
 have h4:=(hB3.block w.heap.size (by show _ < A2.heap.size;omega)).trans n1'
 have h5:=setRow_heap w3 _ _ (seen[n].map byteV).toArray _ _ hx
 have h4':=(setRow_other w3 (w.heap.size+1) w.heap.size (seen[n].map byteV).toArray (by omega)).trans h4
 have hB4:Below w.heap.size w (w3.setRow (w.heap.size+1) (seen[n].map byteV).toArray):=(bt (bt b2 (below_same A2 1)) hB3).grown (setRow_grown w3 _ _) (bt (bt b2 (below_same A2 1)) hB3).size (fun j hj=>by cases hj;omega)
 have hX64:=hX0
 clear hX0
 generalize w3.setRow (w.heap.size+1) (seen[n].map byteV).toArray=W4 at h5 h4' hB4 ⊢
 generalize hSX:seen[n]=X at h5 hX64 ⊢
 have HSX:=hid hSX
 clear hSX
 have hXs:(X.map byteV).toArray.size=64:=by simp[hX64]
 have hX1:(X.map byteV).toArray.all (·.oneCell')=true:=by
  rw[Array.all_eq_true_iff_forall_mem]
  intro v hv
  exact byte_one X v (by simpa using hv)
 have HE:Hid (w.heap.size<=W4.heap.size/\Below w.heap.size w W4):=⟨hB4.size,hB4⟩
 have h6:=setRow_heap W4 _ _ (X.map byteV).toArray _ _ h4'
 clear hcp cR n1 n2 hc3 hw3 hx h4 hB4
 go_wp2_with (first
  | (refine wpList_load_row rfl 232 (.tmp 5) rfl (w.heap.size+1) rfl _ _ _ _ h5 Tryz.underlying232 rfl (arrSize.trans (by rw[hXs])) ?_)
  | (refine wpList_store_row rfl 232 (.tmp 4) (.tmp 14) rfl w.heap.size _ rfl rfl _ _ h4' (arrSize.trans (by rw[hXs])) (by rw[hXs,hZ4]) hX1 ?_)
  | go_in)
 refine bodyPost_ret (v:=.agg (X.map byteV).toArray) (results_cell_row Tryz.results130 _ _ w.heap.size _ _ _ _ rfl h6 Tryz.underlying232 rfl (arrSize.trans (by rw[hXs]))) rfl ⟨by rw[HSX.out],?_⟩
 exact HE.out.2.grown (setRow_grown W4 _ _) HE.out.1 (fun j hj=>by cases hj;exact Nat.le_refl _)
theorem split_none(w:World):Calls Tryz.prog 131 #[.string ⟨#[]⟩] w fun e w'=>e=.returned (.slice none 0 0)/\w=w':=by
 go_enter Tryz.func131,Tryz.ntmps131
 go_wp2
 go_ret
 exact⟨rfl,rfl⟩
def StoreAt(w:World)(s k b:Nat):Prop:=w.heap[s]? = some (.cells #[.pointer (some ⟨k,0,none⟩),.map (some b)] 110 (0,0))
def SessAt(w:World)(x d:Nat)(sv:Value):Prop:=w.heap[x]? = some (.cells #[.pointer (some ⟨d,0,none⟩),sv] 61 (0,0))
theorem StrsIn.none(w:World):StrsIn w (.slice .none 0 0) []:=.inl ⟨rfl,rfl,rfl⟩
theorem SetIn.kept0{w w':World}{b:Nat}{row:Option Nat}(h:SetIn w b [])(hg:w.grownBy w' row)(hne:some b≠row):SetIn w' b []:=by
 obtain⟨f,h1,_⟩:=h
 exact⟨f,h1.kept hg hne,fun p hp=>by cases hp⟩
abbrev okV:Value:=.agg #[.int .i64 0,.int .i64 0,.int .i64 0,.string ⟨#[]⟩]
abbrev okC:Array Value:=#[.int .i64 0,.int .i64 0,.int .i64 0,.string ⟨#[]⟩]
theorem okC_cell{w:World}{b:Nat}{t:TypeId}(h:w.heap[b]? = some (.cells okC t (0,0))):w.cell? ⟨b,0,none⟩=some (.int .i64 0)/\w.cell? ⟨b,1,none⟩=some (.int .i64 0)/\w.cell? ⟨b,2,none⟩=some (.int .i64 0)/\w.cell? ⟨b,3,none⟩=some (.string ⟨#[]⟩)/\∀ o,w.frozen? ⟨b,o,none⟩=false:=
 ⟨(cell_of_row w _ 0 _ _ (0,0) h).trans rfl,(cell_of_row w _ 1 _ _ (0,0) h).trans rfl,(cell_of_row w _ 2 _ _ (0,0) h).trans rfl,(cell_of_row w _ 3 _ _ (0,0) h).trans rfl,fun o=>frozen_of_row w _ o _ _ h⟩
theorem DiskAt.kept{w w':World}{d r:Nat}{hv sv lv:Value}{left:Int}{dead:Bool}{held seen:List (List UInt8)}(h:DiskAt w d hv sv lv left dead held seen)(hg:w.grownBy w' (some r))(hlt:r<d)(hn:∀ cur fz,w.heap[r]?≠some (.cells cur 5 fz)):DiskAt w' d hv sv lv left dead held seen:=by
 have hl:∀ v l,Secs w (d+1) v l->v.ownBlock=none\/v.ownBlock≠some r:=fun v l h=>by
  cases hq:v.ownBlock with
  | none=>exact .inl rfl
  | some g=>exact .inr (fun e=>by have:=h.lt g hq;cases e;omega)
 have hn':∀ j,some r=some j->∀ cur fz,w.heap[j]?≠some (.cells cur 5 fz):=fun j hj=>by cases hj;exact hn
 exact⟨(hg.block d (Array.getElem?_eq_some_iff.1 h.blk).1 (fun e=>by have:=Option.some.inj e;omega)).trans h.blk,h.held.kept hg hn' (hl _ _ h.held),h.seen.kept hg hn' (hl _ _ h.seen),h.apart⟩
theorem grown4(w:World)(r:Nat)(a b c d:Value):w.grownBy ((((w.setCell ⟨r,0,none⟩ a).setCell ⟨r,1,none⟩ b).setCell ⟨r,2,none⟩ c).setCell ⟨r,3,none⟩ d) (some r):=by
 refine⟨rfl,rfl,rfl,by simp,fun j _ hj=>?_⟩
 have h:j≠r:=fun e=>hj (by rw[e])
 rw[Below.heap_setCell _ _ _ _ h,Below.heap_setCell _ _ _ _ h,Below.heap_setCell _ _ _ _ h,Below.heap_setCell _ _ _ _ h]
theorem wpList_append_eq{P:Program}{w:World}{ops:Array Oper}{rest:List Oper}{o:Oper}{a:Act}{Q:Exit->Act->World->Prop}(hgd:o.guard=none)(s x:Operand)(t:TypeId)
 (hop:o.op=Op.call { callee:=Callee.builtin Builtin.append,args:=#[s,x],argTypes:=#[t,t] }) (v u v':Value) (w':World) (hs:a.eval s=v) (hx:a.eval x=u) (hrun:(Builtin.append_ #[t,t] o.type #[v,u]).run P w=.ok v' w')
 (hK:wpList P ops Q rest (a.put o.dst v') w'):wpList P ops Q (o :: rest) a w:=by
 refine wpList_plain hgd fun K hK'=>?_
 unfold Oper.wp
 simp[execOp,hop,resolve,invoke,builtin,hs,hx,hrun,Result.andThen]
 exact hK' _ _ hK
theorem setCell_grown(w:World)(d o:Nat)(v:Value):w.grownBy (w.setCell ⟨d,o,none⟩ v) (some d):=⟨rfl,rfl,rfl,by simp,fun k _ hk=>Below.heap_setCell _ _ _ _ (fun e=>hk (by rw[e]))⟩
theorem grown_same{A B C:World}{row:Option Nat}(h:A.grownBy B row)(k:B.grownBy C row):A.grownBy C row:=
 ⟨k.os.trans h.os,k.tape.trans h.tape,k.output.trans h.output,Nat.le_trans h.size k.size,fun j hj hne=>(k.block j (Nat.lt_of_lt_of_le hj h.size) hne).trans (h.block j hj hne)⟩
theorem DiskIs.tick1{w:World}{d:Nat}{hv sv lv:Value}{D:M.Dk}(h:DiskIs w d hv sv lv D)(b:Bool):DiskIs (w.setCell ⟨d,4,none⟩ (.bool b)) d hv sv lv { D with left:=D.left,dead:=b }/\w.grownBy (w.setCell ⟨d,4,none⟩ (.bool b)) (some d):=
 have hg:=setCell_grown w d 4 (.bool b)
 ⟨h.ctl hg D.left b (heap_setCell_same w d 4 _ _ _ h.blk),hg⟩
theorem DiskIs.tick2{w:World}{d:Nat}{hv sv lv:Value}{D:M.Dk}(h:DiskIs w d hv sv lv D)(b:Bool)(l:Int):DiskIs ((w.setCell ⟨d,4,none⟩ (.bool b)).setCell ⟨d,3,none⟩ (.int .i64 l)) d hv sv lv { D with left:=l,dead:=b }/\w.grownBy ((w.setCell ⟨d,4,none⟩ (.bool b)).setCell ⟨d,3,none⟩ (.int .i64 l)) (some d):=
 have h1:=heap_setCell_same w d 4 _ _ (.bool b) h.blk
 have hg:=grown_same (setCell_grown w d 4 (.bool b)) (setCell_grown _ d 3 (.int .i64 l))
 ⟨h.ctl hg l b (heap_setCell_same _ d 3 _ _ _ h1),hg⟩
theorem dLost_any(d:Nat)(hv sv lv:Value)(D:M.Dk)(w:World)(h:DiskIs w d hv sv lv D)(hl:D.left<=9223372036854775807):
 Calls Tryz.prog 315 #[.pointer (some ⟨d,0,none⟩)] w fun e w'=>e=.returned (.bool (D.dead || D.left == 0))/\DiskIs w' d hv sv lv D.tick/\w.grownBy w' (some d):=by
 have c3:w.cell? ⟨d,3,none⟩=some (.int .i64 D.left):=(cell_of_row w _ 3 _ _ (0,0) h.blk).trans rfl
 have c4:w.cell? ⟨d,4,none⟩=some (.bool D.dead):=(cell_of_row w _ 4 _ _ (0,0) h.blk).trans rfl
 have f3:w.frozen? ⟨d,3,none⟩=false:=frozen_of_row w _ _ _ _ h.blk
 have f4:w.frozen? ⟨d,4,none⟩=false:=frozen_of_row w _ _ _ _ h.blk
 have H:=hid h
 obtain⟨held,seen,late,left,dead⟩:=D
 simp only at c3 c4 hl
 clear h
 cases dead with
 | true=>
  by_cases hp:0<left
  ·have HP:Hid (M.Dk.tick ⟨held,seen,late,left,true⟩=⟨held,seen,late,left-1,true⟩):=by show _ = _;unfold M.Dk.tick;simp[hp]
   go_enter Tryz.func315,Tryz.ntmps315
   go_wp2
   go_ret
   rw[HP.out]
   exact⟨by simp,H.out.tick2 true (left-1)⟩
  ·have HP:Hid (M.Dk.tick ⟨held,seen,late,left,true⟩=⟨held,seen,late,left,true⟩):=by show _ = _;unfold M.Dk.tick;simp[hp]
   go_enter Tryz.func315,Tryz.ntmps315
   go_wp2
   go_ret
   rw[HP.out]
   exact⟨by simp,H.out.tick1 true⟩
 | false=>
  by_cases hz:left=0
  ·subst hz
   have HP:Hid (M.Dk.tick ⟨held,seen,late,0,false⟩=⟨held,seen,late,0,true⟩):=by show _ = _;unfold M.Dk.tick;simp
   go_enter Tryz.func315,Tryz.ntmps315
   go_wp2
   go_ret
   rw[HP.out]
   exact⟨by simp,H.out.tick1 true⟩
  ·by_cases hp:0<left
   ·have HP:Hid (M.Dk.tick ⟨held,seen,late,left,false⟩=⟨held,seen,late,left-1,false⟩):=by show _ = _;unfold M.Dk.tick;simp[hp,hz]
    have hz2:(left == 0)=false:=by simpa using hz
    go_enter Tryz.func315,Tryz.ntmps315
    go_wp2
    go_ret
    rw[HP.out]
    exact⟨by simp[hz2],H.out.tick2 false (left-1)⟩
   ·have HP:Hid (M.Dk.tick ⟨held,seen,late,left,false⟩=⟨held,seen,late,left,false⟩):=by show _ = _;unfold M.Dk.tick;simp[hp,hz]
    have hz2:(left == 0)=false:=by simpa using hz
    go_enter Tryz.func315,Tryz.ntmps315
    go_wp2
    go_ret
    rw[HP.out]
    exact⟨by simp,H.out.tick1 false⟩
theorem infoWr:(Tryz.prog.info? 246).map (fun i=>(i.zero,i.size,i.bytes))=some (some (.agg #[.int .i64 0,.slice none 0 0]),2,32):=by kernel_rfl
theorem DiskIs.addLate{w:World}{d:Nat}{hv sv lv:Value}{D:M.Dk}(h:DiskIs w d hv sv lv D)(n:Nat)(u:Value)(x:List UInt8)(hu:Sec w (d+1) u x)(ty:TypeId)(hlen:D.late.length<=1000000):
 ∃ a c w',(Builtin.append_ #[99,99] ty #[lv,.slice (some ⟨w.heap.size,0,none⟩) 1 1]).run Tryz.prog (w.alloc (.cells #[.int .i64 n,u] 246))=.ok (.slice a (D.late.length+1) c) w'/\
  w'.heap[d]? = some (.cells #[hv,sv,lv,.int .i64 D.left,.bool D.dead] 101 (0,0))/\
  DiskIs (w'.setCell ⟨d,2,none⟩ (.slice a (D.late.length+1) c)) d hv sv (.slice a (D.late.length+1) c) { D with late:=D.late++[(n,x)] }/\
  Chg (dFoot d hv sv lv) w (w'.setCell ⟨d,2,none⟩ (.slice a (D.late.length+1) c))/\
  (∀ g,(Value.slice a (D.late.length+1) c).ownBlock=some g->lv.ownBlock=some g\/w.heap.size<=g):=by
 obtain⟨i0,hi0,hz0,hz1,hz2⟩:=info_parts infoWr
 have hBA:Below w.heap.size w (w.alloc (.cells #[.int .i64 n,u] 246)):=(Below.refl _ w).alloc ler _
 have hc0:∀ j y,[Value.int .i64 n,u][j]? = some y->(w.alloc (.cells #[.int .i64 n,u] 246)).cell? ⟨w.heap.size,j,none⟩=some y:=fun j y hy=>new_at w [.int .i64 n,u] _ j y hy
 have hsA:(w.alloc (.cells #[.int .i64 n,u] 246)).heap.size=w.heap.size+1:=by simp
 generalize w.alloc (.cells #[.int .i64 n,u] 246)=A at hBA hc0 hsA
 have hA:=h.below hBA
 have huA:Sec A (d+1) u x:=hu.chg (Chg.below (F:=fun _=>False) hBA) (noU8_none w)
 have hd:=(ges.1 h.blk).1
 obtain⟨-,us,l1,l2,l3⟩:=hA.late
 have hu1:u.oneCell'=true:=by obtain⟨g,c,rfl,_⟩:=hu;rfl
 obtain⟨v',w',hrun,r1,r2,_,r4⟩:=run_append_own_at (P:=Tryz.prog) A (d+1) 99 ty 246 i0 _ 2 32 Tryz.underlying99 hi0 hz0 hz1 hz2 rfl (by decide) lv D.late.length (lateCells D.late us) l2 ⟨w.heap.size,0,none⟩ 1 1 [.int .i64 n,u] rfl (fun j y hy=>by
  rw[Addr.add_lit,Nat.zero_add];exact hc0 j y hy) (fun y hy=>by
  rcases List.mem_cons.1 hy with rfl|hy
  ·rfl
  ·simp only[List.mem_singleton] at hy;subst hy;exact hu1) (by unfold maxLen;omega) (by omega) (by omega)
 obtain⟨a,c,e⟩:=own_form r1
 subst e
 have e1:w'.heap[d]? = some (.cells #[hv,sv,lv,.int .i64 D.left,.bool D.dead] 101 (0,0)):=heap_kept hA.blk r2 (fun e=>by have:=hA.late.lt d e.symm;omega)
 have hcw:Chg (fun k=>lv.ownBlock=some k) A w':=Chg.grown r2 (fun k e _=>e)
 have hF:NoU8 (fun k=>lv.ownBlock=some k) A:=fun k hk cur fz e=>by obtain⟨c2,h2⟩:=hA.late.type k hk;rw[h2] at e;cases e
 have huw:Sec w' (d+1) u x:=huA.chg hcw hF
 have hlate':LateIn w' (d+1) (.slice a (D.late.length+1) c) (D.late++[(n,x)]):=by
  refine⟨fun e=>by simp at e,us++[u],by simp[l1],?_,fun i hi=>?_⟩
  ·rw[lateCells_snoc _ _ _ _ l1,List.length_append]
   exact r1
  ·by_cases hlt:i<D.late.length
   ·obtain⟨y,k1,k2⟩:=l3 i hlt
    refine⟨y,by rw[List.getElem?_append_left (by omega)];exact k1,?_⟩
    rw[List.getElem_append_left hlt]
    exact k2.chg hcw hF
   ·have e:i=D.late.length:=by simp at hi;omega
    subst e
    refine⟨u,by rw[List.getElem?_append_right (by omega)];simp[l1],?_⟩
    rw[List.getElem_append_right (by omega)]
    simpa using huw
 have hheld:Secs w' (d+1) hv D.held:=hA.held.chg hcw hF (fun g hg e=>by obtain⟨c1,h1⟩:=hA.held.type g hg;obtain⟨c2,h2⟩:=hA.late.type g e;rw[h1] at h2;cases h2)
 have hseen:Secs w' (d+1) sv D.seen:=hA.seen.chg hcw hF (fun g hg e=>by obtain⟨c1,h1⟩:=hA.seen.type g hg;obtain⟨c2,h2⟩:=hA.late.type g e;rw[h1] at h2;cases h2)
 have hset:=setCell_grown w' d 2 (.slice a (D.late.length+1) c)
 have hcs:Chg (fun k=>k=d) w' (w'.setCell ⟨d,2,none⟩ (.slice a (D.late.length+1) c)):=Chg.grown hset (fun k e _=>(Option.some.inj e).symm)
 have hFs:NoU8 (fun k=>k=d) w':=fun k e cur fz=>by subst e;rw[e1];intro e;cases e
 have hne:∀ (v:Value),(∀ g,v.ownBlock=some g->d+1<=g/\g<w'.heap.size)->∀ g,v.ownBlock=some g->¬ g=d:=fun v hl g hg e=>by have:=hl g hg;omega
 refine⟨a,c,w',hrun,e1,⟨heap_setCell_same w' d 2 _ _ _ e1,hheld.chg hcs hFs (hne _ hheld.lt),hseen.chg hcs hFs (hne _ hseen.lt),hlate'.chg hcs hFs (hne _ hlate'.lt),h.apart⟩,?_,?_⟩
 ·exact((Chg.below hBA).then hcw (fun k _ e=>.inr (.inr (.inr e)))).then hcs (fun k _ e=>.inl e)
 ·intro g hg
  rcases r4 with e|e
  ·rw[e] at hg;exact .inl hg
  ·rw[e] at hg;have:=Option.some.inj hg;exact .inr (by omega)
theorem copy_pad{w:World}{g h c:Nat}{x:List UInt8}(ty:TypeId)(hg:w.heap[g]? = some (.cells Z64 5 (0,0)))(hh:∀ j u,(x.map byteV)[j]? = some u->w.cell? ⟨h,j,none⟩=some u)(hx:x.length<=64):
 (Builtin.copy_ #[102,102] ty #[.slice (some ⟨g,0,none⟩) 64 64,.slice (some ⟨h,0,none⟩) x.length c]).run Tryz.prog w=.ok (.int .i64 x.length) (w.setRow g ((M.pad x).map byteV).toArray):=by
 have hl:(x.map byteV).length=x.length:=by rw[List.length_map]
 have hz:Z64.size=64:=by simp[Z64,zeros_len]
 rw[run_copy_row Tryz.prog w 102 102 ty 5 g 0 64 64 ⟨h,0,none⟩ x.length c Z64 5 (x.map byteV) Tryz.underlying102 byteInfo hg (by rw[hl];exact(Nat.min_eq_left hx).symm) (fun j v hv=>by
  rw[Addr.add_lit,Nat.zero_add]
  exact hh j v hv) (by omega) (byte_one x)]
 rw[hl]
 have e:(Z64.toList.take 0++x.map byteV++Z64.toList.drop (0+x.length))=(M.pad x).map byteV:=by
  have ez:Z64.toList=List.replicate 64 (byteV 0):=by
   show List.map byteV (List.replicate 64 0) = _
   rw[List.map_replicate]
  unfold M.pad
  rw[ez,List.take_zero,List.nil_append,Nat.zero_add,List.drop_replicate,List.take_of_length_le hx,List.map_append,List.map_replicate]
 rw[e]
 rfl
theorem pad_whole{w:World}{g base:Nat}{x:List UInt8}(hb:base<=g)(h:w.heap[g]? = some (.cells ((M.pad x).map byteV).toArray 5 (0,0))):Sec w base (.slice (some ⟨g,0,none⟩) 64 64) (M.pad x):=Sec.whole hb h (M.pad_len x)
theorem dWrite_any(d n g c:Nat)(hv sv lv:Value)(D:M.Dk)(x:List UInt8)(w:World)(h:DiskIs w d hv sv lv D)(hn:n<D.seen.length)(hl:D.left<=9223372036854775807)(hx:x.length<=64)(hxs:∀ j u,(x.map byteV)[j]? = some u->w.cell? ⟨g,j,none⟩=some u)(hg:g<w.heap.size)(hlen:D.late.length<=1000000):
 Calls Tryz.prog 314 #[.pointer (some ⟨d,0,none⟩),.int .i64 n,.slice (some ⟨g,0,none⟩) x.length c] w fun e w'=>(∃ v,e=.returned v)/\∃ lv',DiskIs w' d hv sv lv' (D.write n (M.pad x))/\Chg (dFoot d hv sv lv) w w'/\(∀ k,lv'.ownBlock=some k->lv.ownBlock=some k\/w.heap.size<=k):=by
 have hmk:=make64
 obtain⟨b,cs,g0,cg,rfl,hb,hc1,hc2,q1,-⟩:=h.seen.at hn
 have hd:d<w.heap.size:=(ges.1 h.blk).1
 have q0:w.cell? ⟨d,1,none⟩=some (.slice (some ⟨b,0,none⟩) D.seen.length cs):=by rw[cell_of_row w _ 1 _ _ (0,0) h.blk];rfl
 generalize hA:w.alloc (.cells Z64 5)=A1
 have hB:Below w.heap.size w A1:=by rw[<-hA];exact(Below.refl _ w).alloc ler _
 have hn1:A1.heap[w.heap.size]? = some (.cells Z64 5 (0,0)):=by rw[<-hA];exact heap_alloc_new w _
 have hcp:=copy_pad (c:=c) 3 hn1 (h:=g) (fun j u hu=>(hB.cell (p:=⟨g,j,none⟩) hg).trans (hxs j u hu)) hx
 generalize hA2:A1.setRow w.heap.size ((M.pad x).map byteV).toArray=A2 at hcp
 have hB2:Below w.heap.size w A2:=by rw[<-hA2];exact hB.grown (setRow_grown A1 _ _) hB.size (fun j hj=>by cases hj;exact Nat.le_refl _)
 have hs2:Sec A2 (d+1) (.slice (some ⟨w.heap.size,0,none⟩) 64 64) (M.pad x):=pad_whole (by omega) (by rw[<-hA2];exact setRow_heap A1 _ _ _ _ _ hn1)
 have h2:=h.below hB2
 obtain⟨h3,hG3⟩:=h2.putSeen (n:=n) _ _ hs2
 have p1:A1.cell? ⟨d,1,none⟩=some (.slice (some ⟨b,0,none⟩) D.seen.length cs):=(hB.cell (p:=⟨d,1,none⟩) hd).trans q0
 have p2:A2.cell? ⟨d,1,none⟩=some (.slice (some ⟨b,0,none⟩) D.seen.length cs):=(hB2.cell (p:=⟨d,1,none⟩) hd).trans q0
 have p3:A2.cell? ⟨b,n,none⟩=some (.slice (some ⟨g0,0,none⟩) 64 cg):=(hB2.cell (p:=⟨b,n,none⟩) hb).trans q1
 obtain⟨cur,ht⟩:=h2.seen.type b rfl
 have p4:A2.frozen? ⟨b,n,none⟩=false:=frozen_of_row A2 _ _ _ _ ht
 generalize hA3:A2.setCell ⟨b,n,none⟩ (.slice (some ⟨w.heap.size,0,none⟩) 64 64)=A3 at h3 hG3
 have hC3:Chg (dFoot d hv (.slice (some ⟨b,0,none⟩) D.seen.length cs) lv) w A3:=(Chg.below hB2).then (Chg.grown hG3 (fun k e _=>e)) (fun k _ e=>.inr (.inr (.inl (by show some b=some k;rw[e]))))
 have hs3:Sec A3 (d+1) (.slice (some ⟨w.heap.size,0,none⟩) 64 64) (M.pad x):=hs2.chg (Chg.grown hG3 (fun k e _=>e)) (fun k hk cur2 fz e=>by cases hk;rw[ht] at e;cases e)
 have cL:=dLost_any d hv (.slice (some ⟨b,0,none⟩) D.seen.length cs) lv { D with seen:=D.seen.set n (M.pad x) } A3 h3 hl
 have hnL:(n:Int)<(D.seen.length:Int):=by omega
 have HC3:=hid hC3
 have HS3:=hid hs3
 have hsz:w.heap.size<=A3.heap.size:=hC3.size
 have hL2:D.seen.length<=9223372036854775807:=by unfold maxLen at hc2;omega
 have HW:Hid (∀ L:Bool,(D.dead || D.left == 0)=L->D.write n (M.pad x)=if L=true then M.Dk.tick { D with seen:=D.seen.set n (M.pad x) } else { M.Dk.tick { D with seen:=D.seen.set n (M.pad x) } with late:=D.late++[(n,M.pad x)] }):=fun L hL=>by
  unfold M.Dk.write M.Dk.tick
  simp only[hL]
  cases L <;> rfl
 have HL:=hid hlen
 have HBd:Hid (NoU8 (fun k=>some d=some k) A3):=fun k hk cur2 fz e=>by cases hk;rw[h3.blk] at e;cases e
 obtain⟨L,hLe⟩:∃ L,(D.dead || D.left == 0)=L:=⟨_,rfl⟩
 replace HW:=HW.out L hLe
 simp only[hLe] at cL
 have HW2:=hid HW
 generalize hT:M.Dk.tick { D with seen:=D.seen.set n (M.pad x) }=T at cL HW2
 have HT:Hid (T.late=D.late):=by show _ = _;rw[<-hT];rfl
 clear h2 h3 hG3 hC3 hs3 hs2 ht HW hT hxs h hlen hLe hn1 hB hB2 q1
 go_enter Tryz.func314,Tryz.ntmps314
 go_wp2_with fail
 refine cL.mono ?_
 rintro e w4 ⟨rfl,hD4,hG4⟩
 clear cL
 have HC4:Hid (Chg (dFoot d hv (.slice (some ⟨b,0,none⟩) D.seen.length cs) lv) w w4):=HC3.out.then (Chg.grown hG4 (fun k e _=>e)) (fun k _ e=>.inl (Option.some.inj e).symm)
 have hs4:Sec w4 (d+1) (.slice (some ⟨w.heap.size,0,none⟩) 64 64) (M.pad x):=HS3.out.chg (Chg.grown hG4 (fun k e _=>e)) HBd.out
 cases L with
 | true=>
  have HD4:Hid (DiskIs w4 d hv (.slice (some ⟨b,0,none⟩) D.seen.length cs) lv (D.write n (M.pad x))):=by
   show DiskIs _ _ _ _ _ _
   rw[HW2.out,if_pos rfl]
   exact hD4
  clear hD4 hs4 hG4 HW2
  go_wp2
  go_end0
  exact⟨⟨_,rfl⟩,lv,HD4.out,HC4.out,fun k hk=>.inl hk⟩
 | false=>
  have HW3:Hid (D.write n (M.pad x)={ T with late:=D.late++[(n,M.pad x)] }):=by
   show _ = _
   rw[HW2.out,if_neg (by decide)]
  clear HW2
  obtain⟨a5,c5,w5,r1,r2,r3,r4,r5⟩:=hD4.addLate n _ _ hs4 99 (by rw[HT.out];exact HL.out)
  have s2:w4.cell? ⟨d,2,none⟩=some lv:=(cell_of_row w4 _ 2 _ _ (0,0) hD4.blk).trans rfl
  have s5:w5.cell? ⟨d,2,none⟩=some lv:=(cell_of_row w5 _ 2 _ _ (0,0) r2).trans rfl
  have s6:w5.frozen? ⟨d,2,none⟩=false:=frozen_of_row w5 _ _ _ _ r2
  obtain⟨al,cl,el⟩:=hD4.late.form
  subst el
  have HR:=hid r1
  have HF:Hid (DiskIs (w5.setCell ⟨d,2,none⟩ (.slice a5 (T.late.length+1) c5)) d hv (.slice (some ⟨b,0,none⟩) D.seen.length cs) (.slice a5 (T.late.length+1) c5) { T with late:=T.late++[(n,M.pad x)] }/\Chg (dFoot d hv (.slice (some ⟨b,0,none⟩) D.seen.length cs) (.slice al T.late.length cl)) w4 (w5.setCell ⟨d,2,none⟩ (.slice a5 (T.late.length+1) c5))/\(∀ g,(Value.slice a5 (T.late.length+1) c5).ownBlock=some g->(Value.slice al T.late.length cl).ownBlock=some g\/w4.heap.size<=g)):=⟨r3,r4,r5⟩
  clear hD4 hs4 hG4 r1 r2 r3 r4 r5
  go_wp2_with (at_builtin;refine wpList_append_eq rfl (.tmp 36) (.tmp 40) 99 rfl _ _ _ _ rfl rfl HR.out ?_)
  go_end0
  refine⟨⟨_,rfl⟩,.slice a5 (T.late.length+1) c5,?_,HC4.out.then HF.out.2.1 (fun k _ e=>e),fun k hk=>?_⟩
  ·rw[HW3.out,<-HT.out]
   exact HF.out.1
  ·rcases HF.out.2.2 k hk with e|e
   ·exact .inl e
   ·exact .inr (Nat.le_trans HC4.out.size e)
end Go.Proofs.YtgnfknjopafngabGreatDoor
