import Derived.Test.YtgnfknjopafngabGreatDoorKno
import Derived.Shelf.SlIter.Nil
import Derived.Shelf.SortM.Plain
import Derived.Shelf.SortM.SortNone
set_option maxRecDepth 100000
set_option maxHeartbeats 8000000
namespace Go.Proofs.YtgnfknjopafngabGreatDoor
open Go.RowKit
theorem read_pShort(s:ByteArray)(w:World)(hw:MaxIs w)(h:s.size<=300):Calls Tryz.prog 33 #[.string s] w (PrPost s w):=by
 have hmf:∀ (fn:Fn) (first cap:Array Value) (w:World),(Instr.makeFunc fn first cap).run Tryz.prog w=.ok (.func fn first cap) w:=fun _ _ _ _=>rfl
 have cY:=must_ok
 have hd:(s.size:Int)<=300:=by omega
 obtain⟨A,hA⟩:=bytes_ex (Lib.trimSuffix s.data.toList [10])
 have hAs:A.size<=s.size:=by have:=trimS_len' s.data.toList [10];have h:=len_data s;rw[size_of hA];omega
 obtain⟨ps,hps⟩:=bytes_list (cutB A ⟨#[10]⟩)
 obtain⟨f1,f2,f3,f4,f5,f6,f7,f8,f9⟩:=read3_is w (.slice none 0 0) (.int .i64 0)
 have cT:=fun wx=>trim_lib s ⟨#[10]⟩ A wx (by omega) hA.symm
 have cC:=clone_lib s (read3 w (.slice none 0 0) (.int .i64 0)) (by omega)
 replace cY:∀ wx,Calls Tryz.prog 62 #[.bool true] wx fun e w'=>e=.returned (.tuple #[])/\wx=w':=fun wx=>(cY wx).mono fun e w' h=>⟨h.1,h.2.symm⟩
 replace cT:∀ wx,Calls Tryz.prog 65 #[.string s,.string ⟨#[10]⟩] wx fun e w'=>e=.returned (.string A)/\wx=w':=fun wx=>(cT wx).mono fun e w' h=>⟨h.1,h.2.symm⟩
 rw[f1] at cC
 go_enter_defers Tryz.func33,Tryz.ntmps33
 go_wp2_with (first|(go_at_call 62;refine(cY _).mono ?_;rintro e w' ⟨rfl,rfl⟩)|(go_at_call 63;refine cC.mono ?_;rintro e wc ⟨rfl,hBc⟩)|(go_at_call 65;fail))
 have HBc:=hid hBc
 have hcs:w.heap.size+3<=wc.heap.size:=by have:=hBc.size;rw[f1] at this;exact this
 have m3:∀ j,j<5->∃ u,wc.cell? ⟨w.heap.size,j,none⟩=some u:=fun j hj=>by
  obtain⟨u,hu⟩:=f3 j hj
  exact⟨u,(hBc.cell (p:=⟨w.heap.size,j,none⟩) (by show w.heap.size<w.heap.size+3;omega)).trans hu⟩
 have m4:∀ o,wc.frozen? ⟨w.heap.size,o,none⟩=false:=fun o=>(hBc.frozen (p:=⟨w.heap.size,o,none⟩) (by show w.heap.size<w.heap.size+3;omega)).trans (f4 o)
 have m5:wc.cell? ⟨w.heap.size+1,0,none⟩=some .nilIface:=(hBc.cell (p:=⟨w.heap.size+1,0,none⟩) (by show w.heap.size+1<w.heap.size+3;omega)).trans f5
 have m6:wc.frozen? ⟨w.heap.size+1,0,none⟩=false:=(hBc.frozen (p:=⟨w.heap.size+1,0,none⟩) (by show w.heap.size+1<w.heap.size+3;omega)).trans f6
 have m7:wc.cell? ⟨w.heap.size+1+1,0,none⟩=some (.slice none 0 0):=(hBc.cell (p:=⟨w.heap.size+1+1,0,none⟩) (by show w.heap.size+1+1<w.heap.size+3;omega)).trans f7
 have m8:wc.cell? ⟨w.heap.size+1+1,1,none⟩=some (.int .i64 0):=(hBc.cell (p:=⟨w.heap.size+1+1,1,none⟩) (by show w.heap.size+1+1<w.heap.size+3;omega)).trans f8
 have m9:∀ o,wc.frozen? ⟨w.heap.size+1+1,o,none⟩=false:=fun o=>(hBc.frozen (p:=⟨w.heap.size+1+1,o,none⟩) (by show w.heap.size+1+1<w.heap.size+3;omega)).trans (f9 o)
 have hBw:Below w.heap.size w wc:=f2.trans (hBc.mono (by omega))
 have cS:=split_lib A ⟨#[10]⟩ ps wc (hw.below hBw) (by omega) (by decide) hps
 obtain⟨d1,d2,d3,d4⟩:=newB wc (ps.map Value.string) 9 0
 have HA:=hid hA.symm
 have HP:=hid hps
 generalize hWa:wc.alloc (.cells (ps.map Value.string).toArray 9)=wa at cS
 have hWa':(wc.alloc (.cells (ps.map Value.string).toArray 9)).drewN 0=wa:=hWa
 rw[hWa'] at d1 d2 d3
 clear hWa' d4 hWa
 replace cS:Calls Tryz.prog 64 #[.string A,.string ⟨#[10]⟩] wc fun e w'=>e=.returned (.slice (some ⟨wc.heap.size,0,none⟩) ps.length ps.length)/\wa=w':=cS.mono fun e w' h=>⟨h.1,h.2.symm⟩
 have n7:wa.cell? ⟨w.heap.size+1+1,0,none⟩=some (.slice none 0 0):=(d1.cell (p:=⟨w.heap.size+1+1,0,none⟩) (by show w.heap.size+1+1<wc.heap.size;omega)).trans m7
 have n8:wa.cell? ⟨w.heap.size+1+1,1,none⟩=some (.int .i64 0):=(d1.cell (p:=⟨w.heap.size+1+1,1,none⟩) (by show w.heap.size+1+1<wc.heap.size;omega)).trans m8
 have n9:∀ o,wa.frozen? ⟨w.heap.size+1+1,o,none⟩=false:=fun o=>(d1.frozen (p:=⟨w.heap.size+1+1,o,none⟩) (by show w.heap.size+1+1<wc.heap.size;omega)).trans (m9 o)
 clear f3 f4 f5 f6 f7 f8 f9 hBc hA hps cC
 go_wp2_with (first|(go_at_call 65;refine(cT _).mono ?_;rintro e w' ⟨rfl,rfl⟩)|(go_at_call 64;refine cS.mono ?_;rintro e w' ⟨rfl,rfl⟩))
 generalize hW4:(wa.setCell ⟨w.heap.size+1+1,0,none⟩ (.slice (some ⟨wc.heap.size,0,none⟩) ps.length ps.length)).setCell ⟨w.heap.size+1+1,1,none⟩ (.int .i64 1)=W4
 have s4:W4.heap.size=wc.heap.size+1:=by rw[<-hW4,setC_size,setC_size];exact d2
 have o4:∀ g o,g≠w.heap.size+1+1->g<wc.heap.size->W4.cell? ⟨g,o,none⟩=wc.cell? ⟨g,o,none⟩:=fun g o hg hlt=>by
  rw[<-hW4,setC_blk _ _ _ _ _ _ hg,setC_blk _ _ _ _ _ _ hg]
  exact d1.cell (p:=⟨g,o,none⟩) hlt
 have o5:∀ g o,g<wc.heap.size->W4.frozen? ⟨g,o,none⟩=wc.frozen? ⟨g,o,none⟩:=fun g o hlt=>by
  rw[<-hW4,World.frozen?_setCell,World.frozen?_setCell]
  exact d1.frozen (p:=⟨g,o,none⟩) hlt
 have hB4:Below w.heap.size w W4:=by
  rw[<-hW4]
  exact((hBw.trans (d1.mono hBw.size)).setCell (show w.heap.size<=w.heap.size+1+1 by omega) _).setCell (show w.heap.size<=w.heap.size+1+1 by omega) _
 have hpn:ps.length<=301:=by
  have e:(cutB A ⟨#[10]⟩).length=ps.length:=by rw[HP.out];simp
  have h2:(cutB A ⟨#[10]⟩).length<=A.data.toList.length+1:=(M.cutS_len A.data.toList [10]).2
  have h3:=len_data A
  omega
 have hR:RAt W4 (w.heap.size+1+1) wc.heap.size ps 0:=by
  refine⟨?_,?_,fun o=>(o5 _ o (by omega)).trans (m9 o),fun j hj=>?_,by omega,by omega,Nat.zero_le _⟩
  ·rw[<-hW4,World.cell?_setCell_other _ _ _ _ (by simp),World.cell?_setCell_same _ _ _ n7]
  ·rw[<-hW4,World.cell?_setCell_same _ _ _ (by rw[World.cell?_setCell_other _ _ _ _ (by simp)];exact n8)]
   rfl
  ·rw[<-hW4,setC_blk _ _ _ _ _ _ (by omega),setC_blk _ _ _ _ _ _ (by omega)]
   exact d3 j _ (by simp[hj])
 have hgl:1<w.heap.size+1+1:=by have:=hw.lt;omega
 have cR:=readPackage_any W4 (w.heap.size+1+1) wc.heap.size ps hR (hw.below hB4) hgl (by omega) (fun q hq=>by have:=piece_size HP.out q hq;omega)
 have HR:Hid (M.readS s.data.toList=(match titlesC (ps.map fun q=>q.data.toList) M.emptyPk with | .inl n=>.inl n | .inr p=>.inr { p with files:=M.sortF p.files })):=by
  show _ = _
  rw[read_is _ (by rw[len_data];exact h),HA.out,show M.cutS A.data.toList [10] = _ from HP.out]
  cases titlesC (ps.map fun q=>q.data.toList) M.emptyPk <;> rfl
 have p3:∀ j,j<5->∃ u,W4.cell? ⟨w.heap.size,j,none⟩=some u:=fun j hj=>by
  obtain⟨u,hu⟩:=m3 j hj
  exact⟨u,(o4 _ _ (by omega) (by omega)).trans hu⟩
 have p4:∀ o,W4.frozen? ⟨w.heap.size,o,none⟩=false:=fun o=>(o5 _ o (by omega)).trans (m4 o)
 have p5:W4.cell? ⟨w.heap.size+1,0,none⟩=some .nilIface:=(o4 _ _ (by omega) (by omega)).trans m5
 have p6:W4.frozen? ⟨w.heap.size+1,0,none⟩=false:=(o5 _ _ (by omega)).trans m6
 have hlo:w.heap.size<=W4.heap.size:=hB4.size
 clear d1 d2 d3 n7 n8 n9 m3 m4 m5 m6 m7 m8 m9 o4 o5 hR f1 f2 cS cT HBc hBw HA HP
 refine cR.mono ?_
 rintro e w5 ⟨hB5,hm⟩
 have r3:∀ j,j<5->∃ u,w5.cell? ⟨w.heap.size,j,none⟩=some u:=fun j hj=>by
  obtain⟨u,hu⟩:=p3 j hj
  exact⟨u,(hB5.cell (p:=⟨w.heap.size,j,none⟩) (by show w.heap.size<w.heap.size+1+1;omega)).trans hu⟩
 have r4:∀ o,w5.frozen? ⟨w.heap.size,o,none⟩=false:=fun o=>(hB5.frozen (p:=⟨w.heap.size,o,none⟩) (by show w.heap.size<w.heap.size+1+1;omega)).trans (p4 o)
 have r5:w5.cell? ⟨w.heap.size+1,0,none⟩=some .nilIface:=(hB5.cell (p:=⟨w.heap.size+1,0,none⟩) (Nat.lt_succ_self _)).trans p5
 have r6:w5.frozen? ⟨w.heap.size+1,0,none⟩=false:=(hB5.frozen (p:=⟨w.heap.size+1,0,none⟩) (Nat.lt_succ_self _)).trans p6
 have hB6:Below w.heap.size w w5:=hB4.trans (hB5.mono (by omega))
 clear p3 p4 p5 p6 hB5 hB4 cR hW4 cY hmf
 cases ht:titlesC (ps.map fun q=>q.data.toList) M.emptyPk with
 | inl n=>
  rw[ht] at hm
  obtain⟨rfl,hc⟩:=hm
  have HE:Hid (M.readS s.data.toList=.inl n):=by show _ = _;rw[HR.out,ht]
  have hC:=caught_is w.heap.size (w.heap.size+1) n w w5 r3 _ r5 (by omega) hB6 ler (by omega)
  have cD:=catch_panicking (w.heap.size+1+1) w.heap.size (w.heap.size+1) n w5 [] hc r3 r4 _ r5 r6 (by omega)
  clear ht HR
  go_wp2
  refine leaves_cons (f:=61) (args:=#[.pointer (some ⟨w.heap.size+1+1,0,none⟩),.pointer (some ⟨w.heap.size,0,none⟩),.pointer (some ⟨w.heap.size+1,0,none⟩)]) (by simp) (by simp[go_sem]) ?_
  refine cD.mono ?_
  rintro e u' w'' ⟨rfl,rfl,hw2⟩
  have hC2:Caught w.heap.size (w.heap.size+1) n w w5 w'':=by rw[hw2];exact hC
  clear hw2 hC cD
  have z0:=hC2.c0
  have z1:=hC2.c1
  have z2:=hC2.c2
  have z3:=hC2.c3
  have z4:=hC2.c4
  have ze:=hC2.ce
  simp[Leaves,settle,results,Tryz.results33,go_sem,z0,z1,z2,z3,z4,ze]
  exact pr_fault hC2 HE.out
 | inr p=>
  rw[ht] at hm
  obtain⟨v,rfl,hv⟩:=hm
  have HE:Hid (M.readS s.data.toList=.inr { p with files:=M.sortF p.files }):=by show _ = _;rw[HR.out,ht]
  have HV:=hid hv
  obtain⟨nv,bv,fv,ev,hn1,hb1,hf1⟩:=hv
  obtain⟨an,cn,en⟩:=hn1.form
  obtain⟨ab,cb,eb⟩:=hb1.form
  obtain⟨af,cf,ef⟩:=hf1.form
  clear ht HR hn1 hb1 hf1
  subst en eb ef ev
  obtain⟨v0,e0⟩:=r3 0 (by decide)
  obtain⟨v1,e1⟩:=r3 1 (by decide)
  obtain⟨v2,e2⟩:=r3 2 (by decide)
  obtain⟨v3,e3⟩:=r3 3 (by decide)
  obtain⟨v4,e4⟩:=r3 4 (by decide)
  have hne:¬ w.heap.size+1=w.heap.size:=by omega
  go_wp2
  refine leaves_cons (f:=61) (args:=#[.pointer (some ⟨w.heap.size+1+1,0,none⟩),.pointer (some ⟨w.heap.size,0,none⟩),.pointer (some ⟨w.heap.size+1,0,none⟩)]) (by simp) (by simp[go_sem]) ?_
  refine(catch_idle ⟨w.heap.size+1+1,0,none⟩ ⟨w.heap.size,0,none⟩ ⟨w.heap.size+1,0,none⟩ _).mono ?_
  rintro e u' w'' ⟨rfl,rfl,hw2⟩
  obtain⟨y0,y1,y2,y3,y4⟩:=set5 w5 w.heap.size (.string ⟨p.name.toArray⟩) (.string ⟨p.ver.toArray⟩) (.slice an p.needs.length cn) (.slice ab p.bars.length cb) (.slice af (M.sortF p.files).length cf) r3
  have hne2:w.heap.size≠w.heap.size+1:=by omega
  have hk:∀ j u,(((((w5.setCell ⟨w.heap.size,0,none⟩ (.string ⟨p.name.toArray⟩)).setCell ⟨w.heap.size,1,none⟩ (.string ⟨p.ver.toArray⟩)).setCell ⟨w.heap.size,2,none⟩ (.slice an p.needs.length cn)).setCell ⟨w.heap.size,3,none⟩ (.slice ab p.bars.length cb)).setCell ⟨w.heap.size,4,none⟩ (.slice af (M.sortF p.files).length cf)).cell? ⟨w.heap.size,j,none⟩=some u->w''.cell? ⟨w.heap.size,j,none⟩=some u:=fun j u hu=>by rw[hw2,setC_blk _ _ _ _ _ _ hne2];exact hu
  have z0:=hk _ _ y0
  have z1:=hk _ _ y1
  have z2:=hk _ _ y2
  have z3:=hk _ _ y3
  have z4:=hk _ _ y4
  have ze:w''.cell? ⟨w.heap.size+1,0,none⟩=some .nilIface:=by
   rw[hw2,World.cell?_setCell_same _ _ _ (by rw[setC_blk _ _ _ _ _ _ hne,setC_blk _ _ _ _ _ _ hne,setC_blk _ _ _ _ _ _ hne,setC_blk _ _ _ _ _ _ hne,setC_blk _ _ _ _ _ _ hne];exact r5)]
  have hBf:Below w.heap.size w w'':=by
   rw[hw2]
   have hle:=Nat.le_refl w.heap.size
   exact(((((hB6.setCell hle _).setCell hle _).setCell hle _).setCell hle _).setCell hle _).setCell (show w.heap.size<=w.heap.size+1 by omega) _
  have hPf:PkFrom W4.heap.size w'' { p with files:=M.sortF p.files } (.agg #[.string ⟨p.name.toArray⟩,.string ⟨p.ver.toArray⟩,.slice an p.needs.length cn,.slice ab p.bars.length cb,.slice af (M.sortF p.files).length cf]):=by
   rw[hw2]
   have h1:w.heap.size<W4.heap.size:=by omega
   have h2:w.heap.size+1<W4.heap.size:=by omega
   exact(((((HV.out.set h1).set h1).set h1).set h1).set h1).set h2
  clear hw2 hk y0 y1 y2 y3 y4 e0 e1 e2 e3 e4 r5 r4 r6
  simp[Leaves,settle,results,Tryz.results33,go_sem,z0,z1,z2,z3,z4,ze]
  refine⟨hBf,?_⟩
  rw[HE.out]
  exact⟨_,rfl,hPf.lower hlo⟩
theorem pRead_any(s:ByteArray)(w:World)(hw:MaxIs w)(hs:s.size<=8192):Calls Tryz.prog 33 #[.string s] w (PrPost s w):=by
 by_cases h:s.size<=300
 ·exact read_pShort s w hw h
 ·exact read_pLong s w (by omega) hs
theorem infoPkC:(Tryz.prog.info? 87).map (fun i=>(i.zero,i.size,i.bytes))=some (some (.agg #[.string ⟨#[]⟩,.string ⟨#[]⟩,.slice none 0 0,.slice none 0 0,.slice none 0 0]),5,104):=by kernel_rfl
def ErrIs(f:M.Fa)(w:World)(v:Value):Prop:=∃ fb,v=.iface 91 (.pointer (some ⟨fb,0,none⟩))/\FaultAt w fb f.kind f.which f.line ⟨f.name.toArray⟩
def RAllPost(R:Sum M.Fa (List M.Pk))(w:World)(e:Ending)(w':World):Prop:=
 Below w.heap.size w w'/\match R with
  | .inl f=>∃ ev,e=.returned (.tuple #[.slice none 0 0,ev])/\ErrIs f w' ev
  | .inr l=>∃ v,e=.returned (.tuple #[v,.nilIface])/\PksIn w' v l
theorem fault_new{w:World}(k b c:Nat)(N:ByteArray)(t:TypeId):FaultAt (w.alloc (.cells #[.int .i64 k,.int .i64 b,.int .i64 c,.string N] t)) w.heap.size k b c N:=
 ⟨new_at w [.int .i64 k,.int .i64 b,.int .i64 c,.string N] t 0 _ rfl,new_at w [.int .i64 k,.int .i64 b,.int .i64 c,.string N] t 1 _ rfl,new_at w [.int .i64 k,.int .i64 b,.int .i64 c,.string N] t 2 _ rfl,new_at w [.int .i64 k,.int .i64 b,.int .i64 c,.string N] t 3 _ rfl⟩
theorem fault_drew{w:World}{fb k b c:Nat}{N:ByteArray}(h:FaultAt w fb k b c N):FaultAt w.drew fb k b c N:=⟨h.c0,h.c1,h.c2,h.c3⟩
theorem readAll_any(xv:Value)(texts:List ByteArray)(w:World)(hM:MaxIs w)(hE:ErrLaid w)(hx:TxtsIn w xv texts)(hxn:texts.length<=20000)(hxs:∀ t∈texts,t.size<=8192):
 Calls Tryz.prog 176 #[xv] w (RAllPost (M.readAllS (texts.map fun t=>t.data.toList) 0 []) w):=by
 obtain⟨i0,hi0,hz0,hz1,hz2⟩:=info_parts infoPkC
 obtain⟨ax,cx,ex⟩:=hx.form
 subst ex
 have HX:=hid hx
 have HXS:=hid hxs
 have HMx:=hid hM
 have HEr:=hid hE
 clear hx hxs hM hE
 go_enter Tryz.func176,Tryz.ntmps176
 go_wp2
 go_loopw [4,5,6,7,8,9,12] (fun fv _ _ _ _ _ i wr=>∃ (k:Nat) (fresh:List M.Pk) (xs:List Value),i=.int .i64 k/\k<=texts.length/\Below w.heap.size w wr/\wr.ownsRow w.heap.size 87 5 fv fresh.length xs/\PkRowG fv.ownBlock wr fresh xs/\Hid (fresh.length=k)/\Hid (M.readAllS ((texts.take k).map fun t=>t.data.toList) 0 []=.inr fresh)) (fun _ _ _ _ _ _ i _=>texts.length-(intOf i).toNat)
 case atStart=>exact⟨0,[],[],rfl,Nat.zero_le _,Below.refl _ _,World.ownsRow_nil _ _ _ _,rfl,rfl,rfl⟩
 case round=>
  obtain⟨k,fresh,xs,rfl,hk,hBr,hown,hrow,hfl,HR⟩:=hrel
  obtain⟨af,cf,ef⟩:=own_form hown
  subst ef
  have HOwn:=hid hown
  have HRow:=hid hrow
  clear hown hrow
  by_cases hlt:k<texts.length
  ·obtain⟨bx,ox,rfl,hbx,hcapx,hcx⟩:=HX.out.cellAt (by omega)
   have cx0:wr.cell? ⟨bx,ox+k,none⟩=some (.string texts[k]):=(hBr.cell (p:=⟨bx,ox+k,none⟩) hbx).trans (hcx k hlt)
   have hts:texts[k].size<=8192:=HXS.out _ (List.getElem_mem hlt)
   generalize hT:texts[k]=T at cx0 hts
   have HT:=hid hT
   have cR:=fun wx hm=>pRead_any T wx hm hts
   clear hcx hT
   go_wp2_with fail
   refine(cR _ (HMx.out.below hBr)).mono ?_
   rintro e w2 ⟨hB2,hm⟩
   have hBw2:Below w.heap.size w w2:=bt hBr hB2
   clear cR
   cases hr:M.readS T.data.toList with
   | inl n=>
    rw[hr] at hm
    obtain⟨fb,rfl,hF⟩:=hm
    have HP:Hid (M.readAllS (texts.map fun t=>t.data.toList) 0 []=.inl ⟨1,k,n,[]⟩):=by
     show _ = _
     rw[texts_split hlt,M.readAll_snoc _ _ _ _ _ _ HR.out,HT.out,hr]
     simp[Nat.min_eq_left (Nat.le_of_lt hlt)]
    generalize hW3:(w2.alloc (.cells #[.string ⟨#[]⟩,.string ⟨#[]⟩,.slice none 0 0,.slice none 0 0,.slice none 0 0] 87)).alloc (.cells #[.pointer none] 91)=W3
    have hB3:Below w2.heap.size w2 W3:=by rw[<-hW3];exact bt ((Below.refl _ w2).alloc ler _) ((Below.refl _ _).alloc ler _)
    have s3:W3.heap.size=w2.heap.size+2:=by rw[<-hW3];simp
    have t3:W3.cell? ⟨w2.heap.size+1,0,none⟩=some (.pointer none):=by
     rw[<-hW3]
     simp
    have f3:W3.frozen? ⟨w2.heap.size+1,0,none⟩=false:=by
     rw[<-hW3]
     simp
    have hEl:ErrLaid W3:=HEr.out.below (bt hBw2 hB3)
    have cA:=as_hit ⟨fb,0,none⟩ ⟨w2.heap.size+1,0,none⟩ (.pointer none) W3 hEl t3 f3
    have hfb:fb<w2.heap.size:=hF.lt
    have HF:=hid hF
    subst hW3
    clear hEl t3 f3 hF hr HRow HOwn HR
    go_wp2_with fail
    refine cA.mono ?_
    rintro e w4 ⟨rfl,W,hW,hw4⟩
    have hsz:w2.heap.size+1<W.heap.size:=by have:=hW.size;rw[s3] at this;omega
    have hBW:Below w2.heap.size w2 W:=bt hB3 hW
    have qf:w4.cell? ⟨w2.heap.size+1,0,none⟩=some (.pointer (some ⟨fb,0,none⟩)):=by
     rw[hw4]
     refine World.cell?_setCell_same _ _ _ (u:=.pointer none) ((hW.cell (p:=⟨w2.heap.size+1,0,none⟩) (by show w2.heap.size+1 < _;rw[s3];omega)).trans ?_)
     simp
    have hp:∀ o,w4.cell? ⟨fb,o,none⟩=w2.cell? ⟨fb,o,none⟩:=fun o=>by
     rw[hw4,cell_set_block _ _ _ _ _ _ (by omega)]
     exact hBW.cell (p:=⟨fb,o,none⟩) hfb
    have p0:=(hp 0).trans HF.out.c0
    have p2:=(hp 2).trans HF.out.c2
    have hB4:Below w.heap.size w w4:=by rw[hw4];exact(bt hBw2 hBW).setCell (by show w.heap.size<=w2.heap.size+1;have:=hBw2.size;omega) _
    clear hp hw4 cA hW hBW s3 hsz
    go_wp2
    go_region
    all_goals
     go_wp2
     refine bodyPost_ret (v:=.tuple #[.slice none 0 0,.iface 91 (.pointer (some ⟨w4.heap.size,0,none⟩))]) (by simp[results,Tryz.results176,go_sem]) rfl ⟨?_,?_⟩
     ·exact below_drewN (hB4.alloc hB4.size _) 1
     ·rw[HP.out]
      exact⟨_,rfl,_,rfl,fault_drew (fault_new (w:=w4) 1 k n ⟨#[]⟩ 96)⟩
   | inr p=>
    rw[hr] at hm
    obtain⟨v,rfl,hv⟩:=hm
    obtain⟨nv,bv,fv,rfl,p1,p2,p3⟩:=hv
    obtain⟨x1,c1,e1⟩:=p1.form
    obtain⟨x2,c2,e2⟩:=p2.form
    obtain⟨x3,c3,e3⟩:=p3.form
    subst e1 e2 e3
    generalize hW3:(w2.alloc (.cells #[.string ⟨p.name.toArray⟩,.string ⟨p.ver.toArray⟩,.slice x1 p.needs.length c1,.slice x2 p.bars.length c2,.slice x3 p.files.length c3] 87)).alloc (.cells #[.pointer none] 91)=W3
    have HB3:Hid (Below w2.heap.size w2 W3):=by rw[<-hW3];exact bt ((Below.refl _ w2).alloc ler _) ((Below.refl _ _).alloc ler _)
    have HC3:Hid (∀ j u,[Value.string ⟨p.name.toArray⟩,.string ⟨p.ver.toArray⟩,.slice x1 p.needs.length c1,.slice x2 p.bars.length c2,.slice x3 p.files.length c3][j]? = some u->W3.cell? ⟨w2.heap.size,j,none⟩=some u):=by
     rw[<-hW3]
     intro j u hu
     have h1:=new_at w2 [.string ⟨p.name.toArray⟩,.string ⟨p.ver.toArray⟩,.slice x1 p.needs.length c1,.slice x2 p.bars.length c2,.slice x3 p.files.length c3] 87 j u hu
     exact((((Below.refl _ _).alloc ler _)).cell (p:=⟨w2.heap.size,j,none⟩) (World.block_lt_of_cell? _ _ h1)).trans h1
    have hB13:Below w.heap.size w W3:=bt hBw2 HB3.out
    have hown3:=own_below (own_below HOwn.out hB2) HB3.out
    have q0:=HC3.out 0 _ rfl
    have q1:=HC3.out 1 _ rfl
    have q2:=HC3.out 2 _ rfl
    have q3:=HC3.out 3 _ rfl
    have q4:=HC3.out 4 _ rfl
    have HRow3:Hid (PkRowG (Value.slice af fresh.length cf).ownBlock W3 (fresh++[p]) (xs++[.string ⟨p.name.toArray⟩,.string ⟨p.ver.toArray⟩,.slice x1 p.needs.length c1,.slice x2 p.bars.length c2,.slice x3 p.files.length c3])):=
     ((HRow.out.below hB2).snoc (own_blk HOwn.out) p1 p2 p3).below HB3.out
    have HR2:Hid (M.readAllS ((texts.take (k+1)).map fun t=>t.data.toList) 0 []=.inr (fresh++[p])):=by
     show _ = _
     rw[texts_take hlt,M.readAll_snoc _ _ _ _ _ _ HR.out,HT.out,hr]
     rfl
    have hfn:fresh.length<=20000:=by have:=hfl.out;omega
    have cA:∀ t wx,Calls Tryz.prog 35 #[.nilIface,t] wx fun e w'=>e=.returned (.bool false)/\wx=w':=fun t wx=>(as_nil t wx).mono fun e w' h=>⟨h.1,h.2.symm⟩
    clear hr HRow p1 p2 p3 HR hB2 hBw2
    go_wp2_with (first
     | (go_at_call 35;refine(cA _ _).mono ?_;rintro e w' ⟨rfl,rfl⟩)
     | (at_builtin;refine wpList_append_own_at _ rfl _ _ 267 rfl w.heap.size 87 i0 _ 5 104 Tryz.underlying267 hi0 hz0 hz1 hz2 rfl (by decide) _ _ _ rfl (hown3.alloc _) ⟨W3.heap.size,0,none⟩ 1 1 [.string ⟨p.name.toArray⟩,.string ⟨p.ver.toArray⟩,.slice x1 p.needs.length c1,.slice x2 p.bars.length c2,.slice x3 p.files.length c3] rfl rfl ?c1 ?c2 ?c3 ?c4 ?c5 ?_))
    case c1=>exact five_new _ _ _ _ _ _ _
    case c2=>intro u hu;simp at hu;rcases hu with rfl|rfl|rfl|rfl|rfl <;> rfl
    case c3=>unfold maxLen;omega
    case c4=>omega
    case c5=>simp;have:=hB13.size;omega
    intro v4 w4 hown' hgrow _ hat
    have RB:Below w.heap.size w w4:=(hB13.alloc hB13.size _).grown hgrow (by simp;have:=hB13.size;omega) (fun j hj=>(hown3.lt j hj).1)
    have RG:PkRowG v4.ownBlock w4 (fresh++[p]) (xs++[.string ⟨p.name.toArray⟩,.string ⟨p.ver.toArray⟩,.slice x1 p.needs.length c1,.slice x2 p.bars.length c2,.slice x3 p.files.length c3]):=
     (HRow3.out.below ((Below.refl _ W3).alloc ler _)).step hgrow (hat.imp id (fun h=>h.trans (by simp)))
    have RO:w4.ownsRow w.heap.size 87 5 v4 (fresh++[p]).length (xs++[.string ⟨p.name.toArray⟩,.string ⟨p.ver.toArray⟩,.slice x1 p.needs.length c1,.slice x2 p.bars.length c2,.slice x3 p.files.length c3]):=by
     rw[List.length_append];exact hown'
    clear hown' hgrow hat hown3 HRow3
    go_wp2
    go_roundw
    case rel=>exact⟨k+1,fresh++[p],_,by go_num,by omega,RB,RO,RG,by show _ = _;rw[List.length_append,hfl.out];rfl,HR2⟩
    case measure=>simp[intOf];omega
  ·have hkk:k=texts.length:=by omega
   have HR2:Hid (M.readAllS (texts.map fun t=>t.data.toList) 0 []=.inr fresh):=by
    have h:=HR.out
    rw[hkk,List.take_length] at h
    exact h
   have HF:Hid (PksIn wr (.slice af fresh.length cf) fresh):=PksIn.own HRow.out.row HOwn.out
   clear hkk HR HRow HOwn
   go_wp2
   refine bodyPost_ret (v:=.tuple #[.slice af fresh.length cf,.nilIface]) (by simp[results,Tryz.results176,go_sem]) rfl ⟨hBr,?_⟩
   rw[HR2.out]
   exact⟨_,rfl,HF.out⟩
namespace M
def insN(x:List UInt8):List (List UInt8)->List (List UInt8)
 | []=>[x]
 | y :: r=>if Op.bytesLess x y=true then x :: y :: r else y :: insN x r
def sortN(l:List (List UInt8)):List (List UInt8):=l.foldr insN []
theorem insN_perm(x:List UInt8):∀ r,(insN x r).Perm (x :: r)
 | []=>.refl _
 | y :: r=>by
  unfold insN
  split
  ·exact .refl _
  ·exact((insN_perm x r).cons y).trans (.swap _ _ _)
theorem sortN_perm:∀ l,(sortN l).Perm l
 | []=>.refl _
 | x :: l=>(insN_perm x (sortN l)).trans ((sortN_perm l).cons x)
theorem insN_rising{x:List UInt8}:∀ {r:List (List UInt8)},Rising r->x ∉ r->Rising (insN x r)
 | [],_,_=>by simp[insN,Rising]
 | y :: r,h,hx=>by
  obtain⟨h1,h2⟩:=List.pairwise_cons.1 h
  unfold insN
  split
  ·rename_i hl
   refine List.pairwise_cons.2 ⟨fun z hz=>?_,h⟩
   rcases List.mem_cons.1 hz with rfl|hz
   ·exact hl
   ·exact less_trans hl (h1 z hz)
  ·rename_i hl
   have hyx:Op.bytesLess y x=true:=by
    cases hb:Op.bytesLess y x with
    | true=>rfl
    | false=>exact absurd (less_total hb (by simpa using hl)) (fun e=>hx (by simp[e]))
   refine List.pairwise_cons.2 ⟨fun z hz=>?_,insN_rising h2 (fun hm=>hx (by simp[hm]))⟩
   rcases List.mem_cons.1 ((insN_perm x r).mem_iff.1 hz) with rfl|hz
   ·exact hyx
   ·exact h1 z hz
theorem sortN_rising:∀ {l:List (List UInt8)},l.Nodup->Rising (sortN l)
 | [],_=>List.Pairwise.nil
 | x :: l,h=>by
  obtain⟨h1,h2⟩:=List.nodup_cons.1 h
  exact insN_rising (sortN_rising h2) (fun hm=>h1 ((sortN_perm l).mem_iff.1 hm))
theorem sortN_eq{l k:List (List UInt8)}(hl:l.Nodup)(hk:k.Nodup)(h:∀ x,x∈l↔x∈k):sortN l=sortN k:=
 Rising.eq (sortN_rising hl) (sortN_rising hk) (fun x=>by rw[(sortN_perm l).mem_iff,(sortN_perm k).mem_iff,h])
def textOf(l:List Pk)(n:List UInt8):List UInt8:=match l.find? (fun p=>p.name == n) with
 | some p=>printS p
 | none=>[]
def textsS(l:List Pk):List (List UInt8):=(sortN (l.map Pk.name)).map (textOf l)
theorem textOf_mem{l:List Pk}(ha:Apart l){p:Pk}(hp:p∈l):textOf l p.name=printS p:=by
 unfold textOf
 cases h:l.find? (fun q=>q.name == p.name) with
 | none=>
  have:=List.find?_eq_none.1 h p hp
  simp at this
 | some q=>
  have h1:=List.find?_some h
  have h2:=List.mem_of_find?_eq_some h
  have e:=ha.eq h2 hp (by simpa using h1)
  rw[e]
end M
end Go.Proofs.YtgnfknjopafngabGreatDoor
namespace Go.Proofs
open Go.Shelf
def Tryz.keys194_ren:Go.Shelf.Ren:=⟨fun|7=>194|10=>244|n=>n,fun|23=>108|26=>9|3=>87|28=>297|0=>0|27=>296|33=>284|4=>4|n=>n,fun|n=>n⟩
theorem Tryz.keys194:Go.Proofs.SlLaysZ.n7 Tryz.prog Tryz.keys194_ren:={
 mixed:=by kernel_rfl
 f7:=⟨Tryz.f194.name,by decide,Tryz.func194.trans (congrArg some (by kernel_rfl))⟩
 f10:=⟨Tryz.f244.name,by decide,Tryz.func244.trans (congrArg some (by kernel_rfl))⟩
 t0:=Tryz.underlying0
 a0:=Tryz.isAgg0
 z0:=Tryz.sizeOf0
 v0:=Tryz.zeroValue0
 t4:=Tryz.underlying4
 a4:=Tryz.isAgg4
 z4:=Tryz.sizeOf4
 v4:=Tryz.zeroValue4
 t23:=Tryz.underlying108
 a23:=Tryz.isAgg108
 z23:=Tryz.sizeOf108
 v23:=Tryz.zeroValue108
 t26:=Tryz.underlying9
 a26:=Tryz.isAgg9
 z26:=Tryz.sizeOf9
 v26:=Tryz.zeroValue9
 t27:=Tryz.underlying296
 a27:=Tryz.isAgg296
 z27:=Tryz.sizeOf296
 v27:=Tryz.zeroValue296
 t28:=Tryz.underlying297
 a28:=Tryz.isAgg297
 z28:=Tryz.sizeOf297
 v28:=Tryz.zeroValue297
 t33:=Tryz.underlying284
 a33:=Tryz.isAgg284
 z33:=Tryz.sizeOf284
 v33:=Tryz.zeroValue284 }
def Tryz.sorted193_ren:Go.Shelf.Ren:=⟨fun|6=>193|8=>242|9=>243|11=>270|13=>170|12=>271|23=>229|24=>230|14=>282|15=>283|16=>284|17=>285|18=>286|19=>287|20=>237|21=>288|22=>289|25=>290|26=>261|27=>262|28=>291|29=>292|30=>267|31=>293|n=>n,fun|26=>9|28=>297|24=>41|0=>0|3=>3|37=>264|48=>322|50=>324|4=>4|40=>316|39=>315|45=>285|5=>5|9=>9|51=>334|55=>338|57=>352|58=>230|33=>284|n=>n,fun|n=>n⟩
theorem Tryz.sorted193:Go.Proofs.SlLaysZ.n6 Tryz.prog Tryz.sorted193_ren:={
 mixed:=by kernel_rfl
 f6:=⟨Tryz.f193.name,by decide,Tryz.func193.trans (congrArg some (by kernel_rfl))⟩
 f8:=⟨Tryz.f242.name,by decide,Tryz.func242.trans (congrArg some (by kernel_rfl))⟩
 f11:=⟨Tryz.f270.name,by decide,Tryz.func270.trans (congrArg some (by kernel_rfl))⟩
 t0:=Tryz.underlying0
 a0:=Tryz.isAgg0
 z0:=Tryz.sizeOf0
 v0:=Tryz.zeroValue0
 t24:=Tryz.underlying41
 a24:=Tryz.isAgg41
 z24:=Tryz.sizeOf41
 v24:=Tryz.zeroValue41
 t26:=Tryz.underlying9
 a26:=Tryz.isAgg9
 z26:=Tryz.sizeOf9
 v26:=Tryz.zeroValue9
 t28:=Tryz.underlying297
 a28:=Tryz.isAgg297
 z28:=Tryz.sizeOf297
 v28:=Tryz.zeroValue297
 i26:=by kernel_rfl }
def Tryz.sort243_ren:Go.Shelf.Ren:=⟨fun|6=>243|8=>170|9=>271|19=>229|20=>230|21=>282|22=>283|23=>284|24=>285|25=>286|26=>287|27=>237|28=>288|29=>289|36=>290|31=>261|32=>262|37=>291|38=>292|39=>267|41=>293|n=>n,fun|27=>41|29=>9|3=>3|32=>264|26=>41|0=>0|44=>322|46=>324|4=>4|36=>316|35=>315|41=>285|5=>5|9=>9|53=>334|57=>338|63=>352|64=>230|n=>n,fun|n=>n⟩
theorem Tryz.sort243:Go.Proofs.SlLaysM.n6 Tryz.prog Tryz.sort243_ren:={
 mixed:=by kernel_rfl
 f6:=⟨Tryz.f243.name,by decide,Tryz.func243.trans (congrArg some (by kernel_rfl))⟩
 f8:=Tryz.func170.trans (congrArg some (by kernel_rfl))
 f9:=⟨Tryz.f271.name,by decide,Tryz.func271.trans (congrArg some (by kernel_rfl))⟩
 f19:=Tryz.func229.trans (congrArg some (by kernel_rfl))
 f20:=Tryz.func230.trans (congrArg some (by kernel_rfl))
 f21:=⟨Tryz.f282.name,by decide,Tryz.func282.trans (congrArg some (by kernel_rfl))⟩
 f22:=⟨Tryz.f283.name,by decide,Tryz.func283.trans (congrArg some (by kernel_rfl))⟩
 f23:=⟨Tryz.f284.name,by decide,Tryz.func284.trans (congrArg some (by kernel_rfl))⟩
 f24:=⟨Tryz.f285.name,by decide,Tryz.func285.trans (congrArg some (by kernel_rfl))⟩
 f25:=⟨Tryz.f286.name,by decide,Tryz.func286.trans (congrArg some (by kernel_rfl))⟩
 f26:=⟨Tryz.f287.name,by decide,Tryz.func287.trans (congrArg some (by kernel_rfl))⟩
 f27:=⟨Tryz.f237.name,by decide,Tryz.func237.trans (congrArg some (by kernel_rfl))⟩
 f28:=⟨Tryz.f288.name,by decide,Tryz.func288.trans (congrArg some (by kernel_rfl))⟩
 f29:=⟨Tryz.f289.name,by decide,Tryz.func289.trans (congrArg some (by kernel_rfl))⟩
 f31:=Tryz.func261.trans (congrArg some (by kernel_rfl))
 f32:=Tryz.func262.trans (congrArg some (by kernel_rfl))
 f36:=⟨Tryz.f290.name,by decide,Tryz.func290.trans (congrArg some (by kernel_rfl))⟩
 f37:=⟨Tryz.f291.name,by decide,Tryz.func291.trans (congrArg some (by kernel_rfl))⟩
 f38:=⟨Tryz.f292.name,by decide,Tryz.func292.trans (congrArg some (by kernel_rfl))⟩
 f39:=⟨Tryz.f267.name,by decide,Tryz.func267.trans (congrArg some (by kernel_rfl))⟩
 f41:=⟨Tryz.f293.name,by decide,Tryz.func293.trans (congrArg some (by kernel_rfl))⟩
 t0:=Tryz.underlying0
 a0:=Tryz.isAgg0
 z0:=Tryz.sizeOf0
 v0:=Tryz.zeroValue0
 t3:=Tryz.underlying3
 a3:=Tryz.isAgg3
 z3:=Tryz.sizeOf3
 v3:=Tryz.zeroValue3
 t4:=Tryz.underlying4
 a4:=Tryz.isAgg4
 z4:=Tryz.sizeOf4
 v4:=Tryz.zeroValue4
 t5:=Tryz.underlying5
 a5:=Tryz.isAgg5
 z5:=Tryz.sizeOf5
 v5:=Tryz.zeroValue5
 t9:=Tryz.underlying9
 a9:=Tryz.isAgg9
 z9:=Tryz.sizeOf9
 v9:=Tryz.zeroValue9
 t26:=Tryz.underlying41
 a26:=Tryz.isAgg41
 z26:=Tryz.sizeOf41
 v26:=Tryz.zeroValue41
 t27:=Tryz.underlying41
 a27:=Tryz.isAgg41
 z27:=Tryz.sizeOf41
 v27:=Tryz.zeroValue41
 t29:=Tryz.underlying9
 a29:=Tryz.isAgg9
 z29:=Tryz.sizeOf9
 v29:=Tryz.zeroValue9
 t32:=Tryz.underlying264
 a32:=Tryz.isAgg264
 z32:=Tryz.sizeOf264
 v32:=Tryz.zeroValue264
 t35:=Tryz.underlying315
 a35:=Tryz.isAgg315
 z35:=Tryz.sizeOf315
 v35:=Tryz.zeroValue315
 t36:=Tryz.underlying316
 a36:=Tryz.isAgg316
 z36:=Tryz.sizeOf316
 v36:=Tryz.zeroValue316
 t41:=Tryz.underlying285
 a41:=Tryz.isAgg285
 z41:=Tryz.sizeOf285
 v41:=Tryz.zeroValue285
 t44:=Tryz.underlying322
 a44:=Tryz.isAgg322
 z44:=Tryz.sizeOf322
 v44:=Tryz.zeroValue322
 t46:=Tryz.underlying324
 a46:=Tryz.isAgg324
 z46:=Tryz.sizeOf324
 v46:=Tryz.zeroValue324
 t53:=Tryz.underlying334
 a53:=Tryz.isAgg334
 z53:=Tryz.sizeOf334
 v53:=Tryz.zeroValue334
 t57:=Tryz.underlying338
 a57:=Tryz.isAgg338
 z57:=Tryz.sizeOf338
 v57:=Tryz.zeroValue338
 t63:=Tryz.underlying352
 a63:=Tryz.isAgg352
 z63:=Tryz.sizeOf352
 v63:=Tryz.zeroValue352
 t64:=Tryz.underlying230
 a64:=Tryz.isAgg230
 z64:=Tryz.sizeOf230
 v64:=Tryz.zeroValue230 }
open Go.RowKit Go.Maps Go.Sort Go.Shelf
theorem Tryz.sorts193(m:Nat):AnyZ.SortsIn Tryz.prog Tryz.sorted193_ren Fence.wide m:=
 ⟨fun blk off cap ss W hH hblk hsz=>callsIn_wide.2 (AnyM.slices_Sort_string Tryz.sort243 blk off cap ss W hH hblk hsz),
  fun p cap W=>callsIn_wide.2 (AnyM.slices_Sort_string_none Tryz.sort243 p cap W)⟩
theorem Tryz.maps_Keys_194(mb:Option Nat)(W:World):CallsIn Fence.wide 5 Tryz.prog 194 #[.map mb] W fun e w'=>e=.returned (.func (.func 244) #[] #[.pointer (some ⟨W.heap.size,0,none⟩)])/\w'=W.alloc (.cells #[.map mb] 108):=
 AnyZ.keys_in Tryz.keys194 Fence.wide 5 trivial rfl mb W
theorem Tryz.slices_Sorted_keys_193_194{H:Type}(b nn:Nat)(D0:DataW H)(R:Value->Option (DataW H × List MemPlace))(w:World)(hown:w.ownsMap Tryz.prog 9 R b nn D0)(hmax:Maps.size D0<=maxLen)(hbytes:Maps.size D0*16<=140737488355328):
 CallsIn Fence.wide 5 Tryz.prog 193 #[.func (.func 244) #[] #[.pointer (some ⟨w.heap.size,0,none⟩)]] (w.alloc (.cells #[.map (some b)] 108)) fun e w'=>∃ (v:Value) (ss:List (List UInt8)),e=.returned v/\ss.Perm (strKeys D0)/\
  w'.ownsRow (w.alloc (.cells #[.map (some b)] 108)).heap.size 9 1 v ss.length ((ss.mergeSort (fun x y=>decide (x<=y))).map encStr)/\(v=.slice none 0 0↔ss=[])/\Below (w.alloc (.cells #[.map (some b)] 108)).heap.size (w.alloc (.cells #[.map (some b)] 108)) w':=by
 have hbl:=hown.lt
 have hseq:SeqGives Fence.wide 2 Tryz.prog 244 #[.pointer (some ⟨w.heap.size,0,none⟩)] encStr (fun ss=>ss.Perm (strKeys D0)) (Maps.size D0) (w.alloc (.cells #[.map (some b)] 108)):=
  AnyZ.keys_gives (ρ:=Tryz.keys194_ren) { Tryz.keys194 with } Fence.wide _ trivial rfl (by omega) w.heap.size b nn D0 _ (by simp) (by simp) (by
   obtain⟨es,clock,hb,Ft,hs,hD⟩:=hown
   exact⟨es,clock,(Below.heap_alloc _ _ b hbl).trans hb,Ft,hs,hD⟩)
 exact AnyZ.sorted_in Tryz.sorted193 Fence.wide 5 trivial trivial trivial trivial rfl (by omega) (Tryz.sorts193 _) (enters_of Tryz.func243 (by kernel_rfl) rfl) 244 #[.pointer (some ⟨w.heap.size,0,none⟩)] trivial (enters_of Tryz.func244 (by kernel_rfl) rfl) _ _ hmax hbytes _ hseq
theorem Tryz.slices_Sorted_keys_nil_193_194(w:World):
 CallsIn Fence.wide 5 Tryz.prog 193 #[.func (.func 244) #[] #[.pointer (some ⟨w.heap.size,0,none⟩)]] (w.alloc (.cells #[.map none] 108)) fun e w'=>∃ (v:Value) (ss:List (List UInt8)),e=.returned v/\ss=[]/\
  w'.ownsRow (w.alloc (.cells #[.map none] 108)).heap.size 9 1 v ss.length ((ss.mergeSort (fun x y=>decide (x<=y))).map encStr)/\(v=.slice none 0 0↔ss=[])/\Below (w.alloc (.cells #[.map none] 108)).heap.size (w.alloc (.cells #[.map none] 108)) w':=by
 have hseq:SeqGives Fence.wide 2 Tryz.prog 244 #[.pointer (some ⟨w.heap.size,0,none⟩)] encStr (fun ss:List (List UInt8)=>ss=[]) 0 (w.alloc (.cells #[.map none] 108)):=
  AnyZ.keys_gives_nil (ρ:=Tryz.keys194_ren) { Tryz.keys194 with } Fence.wide _ trivial rfl w.heap.size _ (by simp) (by simp)
 exact AnyZ.sorted_in Tryz.sorted193 Fence.wide 5 trivial trivial trivial trivial rfl (by omega) (Tryz.sorts193 _) (enters_of Tryz.func243 (by kernel_rfl) rfl) 244 #[.pointer (some ⟨w.heap.size,0,none⟩)] trivial (enters_of Tryz.func244 (by kernel_rfl) rfl) _ 0 (Nat.zero_le _) (by omega) _ hseq
end Go.Proofs
namespace Go.Proofs.YtgnfknjopafngabGreatDoor
open Go.RowKit Go.Maps Go.Sort
theorem less_lt:∀ (a b:List UInt8),Op.bytesLess a b=true↔a<b
 | _,[]=>by simp[Op.bytesLess]
 | [],_ :: _=>by simp[Op.bytesLess]
 | a :: x,b :: y=>by
  rw[List.cons_lt_cons_iff,<-less_lt x y]
  simp[Op.bytesLess]
theorem merge_sort{ss:List (List UInt8)}(h:ss.Nodup):ss.mergeSort (fun x y=>decide (x<=y))=M.sortN ss:=by
 refine M.Rising.eq ?_ (M.sortN_rising h) (fun x=>by rw[List.mem_mergeSort,(M.sortN_perm ss).mem_iff])
 have hp:(ss.mergeSort (fun x y=>decide (x<=y))).Pairwise (fun a b=>decide (a<=b)=true):=by
  refine List.pairwise_mergeSort (fun a b c hab hbc=>?_) (fun a b=>?_) ss
  ·simp only[decide_eq_true_eq] at *
   exact List.le_trans hab hbc
  ·simp only[Bool.or_eq_true,decide_eq_true_eq]
   exact List.le_total a b
 have hn:(ss.mergeSort (fun x y=>decide (x<=y))).Nodup:=(List.mergeSort_perm ss _).nodup_iff.2 h
 refine(hp.and hn).imp (fun {a b} hab=>?_)
 obtain⟨h1,h2⟩:=hab
 simp only[decide_eq_true_eq] at h1
 rw[less_lt]
 exact Decidable.byContradiction (fun hlt=>h2 (List.le_antisymm h1 (List.not_lt.1 hlt)))
theorem str_keys{es:List (Lit × DataW Value)}{l:List KV}(h:es.Perm (l.map toE)):(strKeys (.map es)).Perm (l.map Prod.fst):=by
 have:=h.map (fun p=>strOf p.1)
 rw[List.map_map] at this
 exact this
theorem names_any(b:Nat)(l:List M.Pk)(w:World)(hl:SetIn w b l)(hn:l.length<=1000000):
 Calls Tryz.prog 141 #[.map (some b)] w fun e w'=>∃ v,e=.returned v/\w'.ownsRow w.heap.size 9 1 v l.length (nmCells (M.sortN (l.map M.Pk.name)))/\Below w.heap.size w w':=by
 have ha:=hl.apart
 obtain⟨f,⟨n,es,h1,h2,h3,h4⟩,_⟩:=hl
 have hlen:es.length=l.length:=by rw[h3.length_eq,List.length_map,List.length_map]
 have cK:=fun W=>callsIn_wide.1 (Tryz.maps_Keys_194 (some b) W)
 have cS:=callsIn_wide.1 (Tryz.slices_Sorted_keys_193_194 b n (.map es) heldE w h1 (by rw[Maps.size_eq];unfold maxLen;omega) (by rw[Maps.size_eq];omega))
 have HP:Hid ((strKeys (.map es)).Perm (l.map M.Pk.name)):=by
  have:=str_keys h3
  rw[List.map_map] at this
  exact this
 have HA:=hid ha
 clear h1 h2 h3 h4 ha hlen
 go_enter Tryz.func141,Tryz.ntmps141
 go_wp2_with (first
  | (go_at_call 194;refine(cK _).mono ?_;rintro e w' ⟨rfl,rfl⟩)
  | (go_at_call 193;refine cS.mono ?_;rintro e w' ⟨v,ss,rfl,hS,hrow,hnil,hb⟩))
 go_ret
 have hp:=hS.trans HP.out
 have hnd:ss.Nodup:=hp.nodup_iff.2 HA.out
 have es1:ss.mergeSort (fun x y=>decide (x<=y))=M.sortN (l.map M.Pk.name):=(merge_sort hnd).trans (M.sortN_eq hnd HA.out (fun x=>hp.mem_iff))
 rw[es1,hp.length_eq,List.length_map] at hrow
 exact⟨v,rfl,ownsRow_base_a hrow (by simp),((Below.refl _ w).alloc ler _).trans (hb.mono (by simp))⟩
end Go.Proofs.YtgnfknjopafngabGreatDoor
