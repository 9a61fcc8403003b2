import Derived.Test.YtgnfknjopafngabGreatDoorKnad
import Derived.Shelf.SlMaps.Clone
set_option maxRecDepth 100000
set_option maxHeartbeats 16000000
namespace Go.Proofs.YtgnfknjopafngabGreatDoor
open Go.RowKit Go.Maps
def OrderPost(R:Sum M.Fa (List (List UInt8)))(w:World)(e:Ending)(w':World):Prop:=
 Below w.heap.size w w'/\match R with
  | .inl f=>∃ ev,e=.returned (.tuple #[.slice none 0 0,ev])/\ErrIs f w' ev
  | .inr l=>∃ v,e=.returned (.tuple #[v,.nilIface])/\w'.ownsRow w.heap.size 9 1 v l.length (nmCells l)
theorem grown_ofB{w w':World}(h:Below w.heap.size w w')(row:Option Nat):w.grownBy w' row:=⟨h.os,h.tape,h.output,h.size,fun k hk _=>h.block k hk⟩
structure OrderAt (there fresh:List M.Pk) (E:List (List UInt8 × List UInt8)) (W2:World) (wb:Nat) (rv dv:Value) (wr:World) (left:List M.Pk) (done ready:List (List UInt8)) (c:List UInt8->Nat):Prop where
 kahn:Kahn there fresh left done ready c
 len:done.length+left.length<=fresh.length
 row:MidRow wr W2.heap.size rv ready
 own:wr.ownsRow W2.heap.size 9 1 dv done.length (nmCells done)
 apart:∀ g,rv.ownBlock=some g->dv.ownBlock≠some g
 cnt:CntAt wr wb c E.length
 grown:W2.grownBy wr (some wb)
theorem qorder_any(bi ba:Nat)(there fresh:List M.Pk)(w:World)(hi:SetIn w bi there)(hf:SetIn w ba fresh)(hn:fresh.length<=10000)(hst:∀ q∈there,ReadP q)(hsf:∀ q∈fresh,ReadP q):
 Calls Tryz.prog 136 #[.map (some bi),.map (some ba)] w (OrderPost (orderR there fresh) w):=by
 obtain⟨i0,hi0,hz0,hz1,hz2⟩:=info_parts infoStr
 have cL:=qline_any bi ba there fresh w hi hf hn hst hsf
 have HF:=hid hf
 have HA:=hid hf.apart
 have HSF:=hid hsf
 have cN:=fun wx (hb:Below w.heap.size w wx)=>names_any ba fresh wx (HF.out.below hb) (by omega)
 clear hi hf hst hsf
 go_enter Tryz.func136,Tryz.ntmps136
 go_upto_region 3 with (first
  | (go_at_call 180;refine cL.mono ?_;rintro e w1 ⟨wb,bb,E,rfl,hQ,hne,hwb,hbb,hB1⟩;generalize hA1:w1.alloc (.cells #[.map (some wb),.map (some bb)] 280)=A1;have gA:w1.grownBy A1 none:=by rw[<-hA1];exact World.grownBy_alloc w1 _ none)
  | (go_at_call 141;refine(cN A1 (bt hB1 (grown_none gA))).mono ?_;rintro e w2 ⟨nv,rfl,hnv,hB2⟩)
  | go_in)
 have hAs:A1.heap.size=w1.heap.size+1:=by rw[<-hA1];simp
 have q0:w2.cell? ⟨w1.heap.size,0,none⟩=some (.map (some wb)):=(hB2.cell (p:=⟨w1.heap.size,0,none⟩) (by show w1.heap.size < _;omega)).trans (by rw[<-hA1];exact new_at w1 [.map (some wb),.map (some bb)] _ 0 _ rfl)
 have q1:w2.cell? ⟨w1.heap.size,1,none⟩=some (.map (some bb)):=(hB2.cell (p:=⟨w1.heap.size,1,none⟩) (by show w1.heap.size < _;omega)).trans (by rw[<-hA1];exact new_at w1 [.map (some wb),.map (some bb)] _ 1 _ rfl)
 obtain⟨names,hnm⟩:∃ names,names=M.sortN (fresh.map M.Pk.name):=⟨_,rfl⟩
 have hnl:names.length=fresh.length:=by rw[hnm,(M.sortN_perm _).length_eq,List.length_map]
 rw[<-hnm,<-hnl] at hnv
 have HRis:Hid (M.Rising names):=by show M.Rising _;rw[hnm];exact M.sortN_rising HA.out
 have HMem:Hid (∀ x,x∈names↔∃ p∈fresh,p.name=x):=by rw[hnm];exact fun x=>sorted_mem x
 have hwl:wb<w1.heap.size:=hQ.1.lt
 have hC2:CntIn w2 wb (cntE E) E.length:=(hQ.1.kept gA (by simp)).below hB2 (hQ.1.kept gA (by simp)).lt
 have HQ1:=hid hC2.at
 have HQ2:Hid (RowsIn w2 w.heap.size bb (rowE E) E.length):=(hQ.2.1.alloc gA).below hB2
 have HQ3:=hid hQ.2.2
 have HX:Hid (∀ x∈names,x.length<=100000):=fun x hx=>by
  obtain⟨p,hp,rfl⟩:=(HMem.out x).1 hx
  exact Nat.le_trans (HSF.out p hp).short.name (by omega)
 have cC:=fun wx (hb:Below w2.heap.size w2 wx)=>clone_any A1.heap.size nv names wx (own_below hnv hb) (by omega)
 have cD:=fun wx v (hb:Below w2.heap.size w2 wx) (hv:wx.ownsRow w2.heap.size 9 1 v names.length (nmCells names))=>deleteW_any wb bb E.length w2.heap.size (cntE E) v names wx (HQ1.out.below hb HQ1.out.lt) hv HX.out (by omega)
 have hs2:=hB2.size
 have HBw:Hid (Below w.heap.size w w2):=bt (bt hB1 (grown_none gA)) hB2
 have HNv:=hid hnv
 have HWb:Hid (w.heap.size<=wb/\wb<w1.heap.size/\wb≠bb/\A1.heap.size=w1.heap.size+1/\A1.heap.size<=w2.heap.size):=⟨hwb,hwl,hne,hAs,hs2⟩
 clear hA1 hnm cL cN hQ hC2 hnv hwb hwl hne gA hbb hB1
 go_cut [8] (fun s8 wx=>wx.ownsRow w2.heap.size 9 1 s8 (freeS (cntE E) names).length (nmCells (freeS (cntE E) names))/\Below w2.heap.size w2 wx)
 case first=>
  go_region_with (first
   | (go_at_call 182;refine(cC _ (below_same w2 1)).mono ?_;rintro e w3 ⟨cv,rfl,hcv,hB3⟩;have hB4:Below w2.heap.size w2 w3:=bt (below_same w2 1) hB3;have y0:=(hB4.cell (p:=⟨w1.heap.size,0,none⟩) (by show w1.heap.size < _;omega)).trans q0;have y1:=(hB4.cell (p:=⟨w1.heap.size,1,none⟩) (by show w1.heap.size < _;omega)).trans q1)
   | (go_at_call 181;refine(cD _ _ hB4 hcv).mono ?_;rintro e w5 ⟨dv,rfl,hdv,hg5⟩;have hB5:Below w2.heap.size w2 w5:=hB4.grown hg5 hB4.size (fun j hj=>(hcv.lt j hj).1)))
  all_goals
   go_wp2_with fail
   go_meet
   exact⟨hdv,hB5⟩
 case rest=>
 obtain⟨hr8,hB8⟩:=hcut
 have HK0:Hid (Kahn there fresh fresh [] (freeS (cntE E) names) (cntE E)):=by
  have hc:∀ p∈fresh,cntE E p.name=M.waitN fresh there p:=fun p hp=>cnt_is HQ3.out.1 HQ3.out.2.2 HA.out hp
  obtain⟨r1,r2⟩:=ready_start HRis.out HMem.out hc
  exact Kahn.start HA.out (fun p hp=>(HSF.out p hp).name) hc r1 r2
 obtain⟨a8,c8,e8⟩:=own_form hr8
 subst e8
 obtain⟨an,cn,en⟩:=own_form HNv.out
 subst en
 have HR8:=hid hr8
 have HB8:=hid hB8
 have HB2:=hid hB2
 have HN:=hid hn
 have HQ:Hid (w2.cell? ⟨w1.heap.size,0,none⟩=some (.map (some wb))/\w2.cell? ⟨w1.heap.size,1,none⟩=some (.map (some bb))):=⟨q0,q1⟩
 have HZ:Hid (Tryz.prog.info? 9=some i0/\i0.zero=some (.string ⟨#[]⟩)/\i0.size=1/\i0.bytes=16):=⟨hi0,hz0,hz1,hz2⟩
 have HNl:=hid hnl
 clear hr8 hB8 cC cD hB2 hAs hs2 hnl hn q0 q1 hi0 hz0 hz1 hz2
 go_wp2
 go_loopw [8,9,10,12,13,14] (fun rv dv _ _ _ _ wr=>∃ (left:List M.Pk) (done ready:List (List UInt8)) (c:List UInt8->Nat),OrderAt there fresh E w2 wb rv dv wr left done ready c) (fun _ dv _ _ _ _ _=>fresh.length-lenV dv)
 case atStart=>
  have hB9:Below wc.heap.size wc (wc.alloc (.cells #[] 9)):=(Below.refl _ wc).alloc ler _
  have hlt:∀ g,(Value.slice a8 (freeS (cntE E) names).length c8).ownBlock=some g->w2.heap.size<=g/\g<wc.heap.size:=fun g hg=>HR8.out.lt g hg
  refine⟨fresh,[],freeS (cntE E) names,cntE E,HK0.out,by simp,MidRow.own (own_below HR8.out hB9),?_,?_,?_,?_⟩
  ·exact⟨rfl,.inr ⟨wc.heap.size,0,#[],rfl,HB8.out.size,heap_alloc_new wc _,Nat.le_refl _,by unfold maxLen;omega,rfl,rfl⟩⟩
  ·intro g hg h
   have:=hlt g hg
   have e:wc.heap.size=g:=Option.some.inj h
   omega
  ·have hw:=HWb.out
   exact(HQ1.out.below HB8.out HQ1.out.lt).below hB9 (by have:=HB8.out.size;omega)
  ·have h9:=bt HB8.out hB9
   exact⟨h9.os,h9.tape,h9.output,h9.size,fun k hk _=>h9.block k hk⟩
 case round=>
  obtain⟨left,done,ready,c,H⟩:=hrel
  obtain⟨W0,hW0⟩:∃ W,W=wr:=⟨_,rfl⟩
  subst hW0
  obtain⟨ad,cd,ed⟩:=own_form H.own
  subst ed
  have hw:=HWb.out
  have hq:=HQ.out
  have hkb:=fun k o (h1:k<w2.heap.size) (h2:k≠wb)=>World.cell?_of_block (a:=⟨k,o,none⟩) (H.grown.block k h1 (fun e=>h2 (Option.some.inj e)))
  cases ready with
  | nil=>
   have H':=H.row
   obtain⟨a0,cp0,e0,_⟩:=H'
   subst e0
   have hnv:=HNv.out.kept H.grown (.inr (fun e=>by have:=HNv.out.lt _ e;omega))
   have hrow:=RowIn.wide (RowIn.own hnv) (Nat.zero_le _) ler
   have z0:=(hkb w1.heap.size 0 (by omega) (by omega)).trans hq.1
   have z1:=(hkb w1.heap.size 1 (by omega) (by omega)).trans hq.2
   have hnl:names.length<=10000:=by have:=HNl.out;have:=HN.out;omega
   have cX:=indexW_any wb bb E.length c (.slice an names.length cn) names W0 H.cnt hrow HX.out (by omega)
   have HH:=hid H
   have HRw:=hid hrow
   have hBW:Below w.heap.size w W0:=HBw.out.grown H.grown HBw.out.size (fun j hj=>by have:=Option.some.inj hj;omega)
   have HBW:Hid (Below w.heap.size w W0/\w.heap.size<=w2.heap.size):=⟨hBW,HBw.out.size⟩
   clear H hkb hq hnv hrow hBW
   go_wp2_with fail
   refine cX.mono ?_
   rintro e w6 ⟨⟨rfl,h0⟩|⟨j,hj,rfl,hc,hb⟩,hB6⟩
   ·have HA0:Hid (orderR there fresh=.inr done):=orderR_all (HH.out.kahn.all HMem.out h0)
    clear h0 cX
    go_wp2
    refine bodyPost_ret (v:=.tuple #[.slice ad done.length cd,.nilIface]) (by simp[results,Tryz.results136,go_sem]) rfl ⟨bt HBW.out.1 hB6,?_⟩
    rw[HA0.out]
    exact⟨_,rfl,ownsRow_base_a (own_below HH.out.own hB6) HBW.out.2⟩
   ·obtain⟨k1,k2⟩:=HH.out.kahn.stuck HMem.out HRis.out j hj hc hb
    have HA0:Hid (orderR there fresh=.inl ⟨7,0,0,names[j]⟩):=orderR_stuck k1 k2
    obtain⟨gb,eb,hgb,hcap,hcl⟩:=HRw.out.cellAt (by omega)
    subst eb
    have p0:w6.cell? ⟨gb,j,none⟩=some (.string ⟨names[j].toArray⟩):=(hB6.cell (p:=⟨gb,j,none⟩) hgb).trans (hcl j _ (by simp[nmCells,hj,strV]))
    generalize hNj:names[j]=nj at p0 HA0
    have HB6:Hid (Below w.heap.size w w6):=bt HBW.out.1 hB6
    clear hb hc k1 k2 cX hcl hNj z0 z1
    go_wp2
    go_region
    all_goals
     go_wp2
     refine bodyPost_ret (v:=.tuple #[.slice none 0 0,.iface 91 (.pointer (some ⟨w6.heap.size,0,none⟩))]) (by simp[results,Tryz.results136,go_sem]) rfl ⟨?_,?_⟩
     ·exact below_drewN (HB6.out.alloc HB6.out.size _) 1
     ·rw[HA0.out]
      exact⟨_,rfl,_,rfl,fault_drew (fault_new (w:=w6) 7 0 0 ⟨nj.toArray⟩ 96)⟩
  | cons n r=>
   obtain⟨g,off,cap,e8,hc1,hc2,hcell⟩:=H.row.head
   subst e8
   obtain⟨a',ha',hsl⟩:=str_behind g off r.length cap
   obtain⟨N,hN⟩:∃ N:ByteArray,N=⟨n.toArray⟩:=⟨_,rfl⟩
   have hNd:N.data.toList=n:=by rw[hN]
   rw[<-hN] at hcell
   have hlt0:=H.row.lt g rfl
   have hdl:=H.len
   obtain⟨hi0,hz0,hz1,hz2⟩:=HZ.out
   have hnn:=HN.out
   have hown9:=H.own
   have HH:=hid H
   have HNd:=hid hNd
   have hpos:(0:Int)<((r.length+1:Nat):Int):=by omega
   clear H hN hNd hkb hq
   go_wp2_with (first
    | (at_builtin;refine wpList_append_own_at _ rfl _ _ 41 rfl w2.heap.size 9 i0 (.string ⟨#[]⟩) 1 16 Tryz.underlying41 hi0 hz0 hz1 hz2 rfl (by decide) _ _ _ rfl (hown9.alloc _) ⟨W0.heap.size,0,none⟩ 1 1 [.string N] rfl rfl ?c1 ?c2 ?c3 ?c4 ?c5 ?_)
    | go_in)
   case c1=>exact one_new _ _ _
   case c2=>intro u hu;simp at hu;subst hu;rfl
   case c3=>unfold maxLen;omega
   case c4=>omega
   case c5=>simp;omega
   intro v9 w4 hown4 hgrow _ hat
   have H:=HH.out
   have hNd:=HNd.out
   have G04:W0.grownBy w4 (Value.slice ad done.length cd).ownBlock:=grown_thenO (World.grownBy_alloc W0 _ _) hgrow (fun j hj=>.inl hj)
   have hdb:∀ j,(Value.slice ad done.length cd).ownBlock=some j->w2.heap.size<=j/\j<W0.heap.size:=fun j hj=>H.own.lt j hj
   obtain⟨row4,hb4⟩:=MidRow.tail (H.row.kept G04 (fun j hj e=>H.apart j hj e)) ha'
   have cnt4:CntAt w4 wb c E.length:=H.cnt.kept G04 (fun e=>by have:=hdb wb e.symm;omega)
   have grown4':w2.grownBy w4 (some wb):=grown_thenO H.grown G04 (fun j hj=>.inr (hdb j hj).1)
   have hkb4:=fun k o (h1:k<w2.heap.size) (h2:k≠wb)=>World.cell?_of_block (a:=⟨k,o,none⟩) (grown4'.block k h1 (fun e=>h2 (Option.some.inj e)))
   have y0:w4.cell? ⟨w1.heap.size,0,none⟩=some (.map (some wb)):=(hkb4 w1.heap.size 0 (by omega) (by omega)).trans HQ.out.1
   have y1:w4.cell? ⟨w1.heap.size,1,none⟩=some (.map (some bb)):=(hkb4 w1.heap.size 1 (by omega) (by omega)).trans HQ.out.2
   have rows4:RowsIn w4 w.heap.size bb (rowE E) E.length:=HQ2.out.kept grown4' hw.2.2.1 HQ1.out.no_cells
   have hg4:g<w4.heap.size:=Nat.lt_of_lt_of_le hlt0.2 G04.size
   have hap:v9.ownBlock≠some g:=fun e=>by
    rcases hat with h|h
    ·rw[h] at e
     exact H.apart g rfl e
    ·rw[h] at e
     have:=Option.some.inj e
     omega
   have hv9:∀ j,v9.ownBlock=some j->j<w4.heap.size:=fun j hj=>(hown4.lt j hj).2
   obtain⟨a9,c9,e9⟩:=own_form hown4
   subst e9
   have hB:=row_mem (n:=n) HQ3.out.2.2
   have hnd:=row_nodup HQ3.out.1 n
   obtain⟨k1,k2⟩:=H.kahn.step hnd hB
   have hmid:=fun j=>H.kahn.mid (B:=rowE E n) hnd j
   have hlen2:=k2.ready_len
   have hless:=H.kahn.less
   have hxx:∀ x∈rowE E n,1<=c x/\c x<=1000000000/\x.length<=100000:=fun x hx=>by
    obtain⟨p,hp,_,_,rfl,_,_⟩:=(hB x).1 hx
    have h1:=H.kahn.cnt_le hp
    exact⟨k1 _ hx,by omega,Nat.le_trans (HSF.out p hp).short.name (by omega)⟩
   have hsz:N.size<=maxLen:=by
    obtain⟨p,hp,_,e⟩:=(H.kahn.free n).1 (by simp)
    have h1:=(HSF.out p (H.kahn.sub p hp)).short.name
    rw[size_of hNd,e]
    unfold maxLen
    omega
   have cS:=setUp_any wb bb w.heap.size E.length E.length c (rowE E) N w4 cnt4 rows4 hsz (by rw[hNd];exact hnd) (by rw[hNd];exact hxx) HQ3.out.2.1 (by rw[hNd];have:=rowE_le E n;have:=HQ3.out.2.1;omega)
   rw[hNd] at cS
   generalize hfd:freedS c (rowE E n)=freed at cS k2 hmid hlen2
   rw[insAll_length] at hlen2
   have HK:=hid k2
   have HMid:=hid hmid
   have HLen:Hid (freed.length+r.length<=10000):=by show _<=_;omega
   have HLess:Hid ((done++[n]).length+(left.filter fun p=>p.name != n).length<=fresh.length/\done.length<fresh.length):=by
    refine⟨?_,?_⟩
    ·rw[List.length_append,List.length_singleton];omega
    ·omega
   have HRow4:Hid (MidRow w4 w2.heap.size (.slice a' r.length (cap-1)) r/\(Value.slice a' r.length (cap-1)).ownBlock=some g):=⟨row4,hb4⟩
   have HOwn4:Hid (w4.ownsRow w2.heap.size 9 1 (.slice a9 (done.length+1) c9) (done.length+1) (nmCells (done++[n]))):=by
    have e:nmCells (done++[n])=nmCells done++[.string N]:=by
     unfold nmCells
     rw[List.map_append,<-hNd]
     rfl
    show World.ownsRow _ _ _ _ _ _ _
    rw[e]
    exact hown4
   have HG4:Hid (w2.grownBy w4 (some wb)/\g<w4.heap.size/\w2.heap.size<=g/\(Value.slice a9 (done.length+1) c9).ownBlock≠some g):=⟨grown4',hg4,hlt0.1,hap⟩
   clear H hNd hgrow hat G04 hdb row4 hb4 cnt4 grown4' hkb4 rows4 hB hnd k1 k2 hmid hlen2 hless hxx hsz hown4 hown9 hap hv9 hcell hi0 hz0 hz1 hz2 hfd hdl hnn
   go_wp2_with (first
    | (go_at_call 184;refine cS.mono ?_;rintro e w5 ⟨fv,rfl,hfr,hc5,hg5⟩;obtain⟨af,cf,ef⟩:=own_form hfr;subst ef)
    | go_in)
   have HFr:Hid (∀ j (hj:j<freed.length),∃ fb,af=some ⟨fb,0,none⟩/\w4.heap.size<=fb/\fb<w5.heap.size/\freed.length<=cf/\w5.cell? ⟨fb,j,none⟩=some (strV freed[j])):=fun j hj=>by
    have hfr':=hfr
    obtain⟨_,⟨h,h0⟩|⟨fb,cap2,cur,h,hb,hcc,h2,_⟩⟩:=hfr
    ·simp at h0
     rw[h0] at hj
     simp at hj
    ·injection h with e1 _ e3
     subst e1 e3
     refine⟨fb,rfl,hb,(Array.getElem?_eq_some_iff.1 hcc).1,h2,?_⟩
     rw[hfr'.cellAt j (by omega)]
     simp[nmCells,hj]
   have HC5:=hid hc5
   have HG5:=hid hg5
   have hgg:=HG4.out
   have HRow5:Hid (MidRow w5 w2.heap.size (.slice a' r.length (cap-1)) r):=HRow4.out.1.kept hg5 (fun j hj e=>by rw[HRow4.out.2] at hj;have:=Option.some.inj hj;have:=Option.some.inj e;omega)
   have h45:=hg5.size
   clear hfr hc5 hg5 cS y0 y1
   go_loopw [8,12,13,14,43] (fun rv _ _ _ i wr=>∃ j:Nat,i=.int .i64 j/\j<=freed.length/\Hid (MidRow wr w2.heap.size rv (insAll (freed.take j) r))/\Hid (rv.ownBlock=some g\/∃ g',rv.ownBlock=some g'/\w5.heap.size<=g')/\Hid (w5.grownBy wr (some g))) (fun _ _ _ _ i _=>freed.length-(intOf i).toNat)
   case atStart=>exact⟨0,rfl,Nat.zero_le _,HRow5,.inl HRow4.out.2,grown_refl _ _⟩
   case round=>
    obtain⟨j,rfl,hj,HRow,HOb,HGr⟩:=hrel
    by_cases hjl:j<freed.length
    ·obtain⟨fb,ef,hf1,hf2,hf3,hf4⟩:=HFr.out j hjl
     obtain⟨Y,hY⟩:∃ Y:ByteArray,Y=⟨freed[j].toArray⟩:=⟨_,rfl⟩
     have hYd:Y.data.toList=freed[j]:=by rw[hY]
     have p0:wr.cell? ⟨fb,j,none⟩=some (.string Y):=by
      rw[hY]
      exact(World.cell?_of_block (a:=⟨fb,j,none⟩) (HGr.out.block fb hf2 (fun e=>by have:=Option.some.inj e;omega))).trans hf4
     have hlenx:=insAll_length (freed.take j) r
     have hlen1:=HLen.out
     rw[List.length_take,Nat.min_eq_left (Nat.le_of_lt hjl)] at hlenx
     have HIns:Hid (insAll (freed.take (j+1)) r=(insAll (freed.take j) r).take (M.placeS Y.data.toList (insAll (freed.take j) r))++Y.data.toList :: (insAll (freed.take j) r).drop (M.placeS Y.data.toList (insAll (freed.take j) r))):=by
      show _ = _
      rw[insAll_take hjl,<-hYd,M.ins_eq]
     have hmid:=HMid.out j
     generalize insAll (freed.take j) r=xs at HRow hlenx HIns hmid
     obtain⟨a,cp,e8,hr1,hr2,hr3⟩:=HRow.out
     subst e8
     subst ef
     have hpl:=M.place_le Y.data.toList xs
     have cB:=search_any a cp xs Y wr hmid (by omega) (fun h0=>by
      obtain⟨_,h,_⟩|⟨g2,off2,cur2,e2,_,_,_,hx⟩:=hr3
      ·rw[h] at h0
       simp at h0
      ·refine⟨g2,off2,e2,fun t ht=>hx t _ ?_⟩
       simp[nmCells,ht,strV])
     have cI:=fun wx (hb:Below wr.heap.size wr wx)=>insert_any w2.heap.size wx.heap.size (M.placeS Y.data.toList xs) (.slice a xs.length cp) xs Y (wx.alloc (.cells #[.string Y] 9)) (HRow.out.kept (grown_ofB (bt hb ((Below.refl _ wx).alloc ler _)) none) (fun _ _=>by simp)) hpl (by omega) (heap_alloc_new wx _) (fun e=>by have:=(HRow.out.lt _ e).2;have:=hb.size;omega) (by have:=HG5.out.size;have:=HG4.out.1.size;have:=HGr.out.size;have:=hb.size;simp;omega)
     have HHb:Hid (xs.length=j+r.length/\M.placeS Y.data.toList xs<=xs.length):=⟨hlenx,hpl⟩
     have hjb:j<10000:=by omega
     clear hY hYd hf4 hr3 hmid hlenx hpl hlen1 hr1 hr2
     go_wp2_with (first
      | (go_at_call 185;refine cB.mono ?_;rintro e w6 ⟨bo,rfl,q,hw6⟩;have hB6:Below wr.heap.size wr w6:=by rw[hw6];exact below_same wr q
         have c6:=cI w6 hB6
         clear hw6 cI cB p0)
      | (go_at_call 186;refine c6.mono ?_;rintro e w7 ⟨v7,rfl,hm7,hg7,ho7⟩))
     have hO:=HOb.out
     have h7s:=hg7.size
     have hB7:Below wr.heap.size wr (w6.alloc (.cells #[.string Y] 9)):=bt hB6 ((Below.refl _ w6).alloc ler _)
     have HG7:Hid (w5.grownBy w7 (some g)):=grown_thenO (grown_thenO HGr.out (grown_ofB hB7 none) (fun j hj=>by cases hj)) hg7 (fun k hk=>by
      rcases hO with h|⟨g',h,hg'⟩
      ·rw[h] at hk
       exact .inl hk
      ·rw[h] at hk
       have:=Option.some.inj hk
       exact .inr (by omega))
     have HO7:Hid (v7.ownBlock=some g\/∃ g',v7.ownBlock=some g'/\w5.heap.size<=g'):=by
      rcases ho7 with h|h
      ·rw[h]
       exact hO
      ·exact .inr ⟨_,h,by have:=HGr.out.size;have:=hB6.size;simp;omega⟩
     have HR7:Hid (MidRow w7 w2.heap.size v7 (insAll (freed.take (j+1)) r)):=by
      show MidRow _ _ _ _
      rw[HIns.out]
      exact hm7
     clear hm7 hg7 ho7 c6 hB7 hB6 hO h7s
     go_roundw
     case rel=>exact⟨j+1,by go_num,by omega,HR7,HO7,HG7⟩
     case measure=>simp[intOf];omega
    ·have hjj:j=freed.length:=by omega
     have hrow:=HRow.out
     rw[hjj,List.take_length] at hrow
     have hG2:w5.grownBy wr (some g):=HGr.out
     have HFin:Hid (∃ (left':List M.Pk) (done' ready':List (List UInt8)) (c':List UInt8->Nat),OrderAt there fresh E w2 wb u8 (.slice a9 (done.length+1) c9) wr left' done' ready' c'):=by
      refine⟨left.filter fun p=>p.name != n,done++[n],insAll freed r,less1 c (rowE E n),HK.out,HLess.out.1,hrow,?_,?_,?_,?_⟩
      ·rw[List.length_append]
       have h1:=HOwn4.out.kept HG5.out (.inr (fun e=>by have:=HOwn4.out.lt _ e;omega))
       exact h1.kept hG2 (.inr (fun e=>hgg.2.2.2 e))
      ·intro g' hg' e
       rcases HOb.out with h|⟨g2,h,h2⟩
       ·rw[h] at hg'
        cases hg'
        exact hgg.2.2.2 e
       ·rw[h] at hg'
        cases hg'
        have:=HOwn4.out.lt _ e
        omega
      ·exact HC5.out.kept hG2 (fun e=>by have:=Option.some.inj e;omega)
      ·exact grown_thenO (grown_thenO hgg.1 HG5.out (fun k hk=>.inl hk)) hG2 (fun k hk=>.inr (by have:=Option.some.inj hk;omega))
     have hless:=HLess.out.2
     clear hrow hG2
     go_wp2
     go_roundw
     case rel=>exact HFin.out
     case measure=>simp[lenV];omega
def PlanPost(there:List M.Pk)(R:Sum M.Fa (List M.Pk × List (List UInt8)))(w:World)(e:Ending)(w':World):Prop:=
 Below w.heap.size w w'/\match R with
  | .inl f=>∃ ev,e=.returned (.tuple #[.map none,.slice none 0 0,ev])/\ErrIs f w' ev
  | .inr (all,names)=>∃ b v fresh,e=.returned (.tuple #[.map (some b),v,.nilIface])/\SetIn w' b fresh/\all=there++fresh/\M.Apart all/\(∀ p∈fresh,ReadP p)/\w'.ownsRow w.heap.size 9 1 v names.length (nmCells names)
theorem plannedS_fault{there:List M.Pk}{T:List (List UInt8)}{f:M.Fa}(h:addedS there T=.inl f):M.plannedS there T=.inl f:=by
 unfold addedS at h
 unfold M.plannedS
 cases hr:M.readAllS T 0 [] with
 | inl g=>rw[hr] at h;cases h;rfl
 | inr l=>
  rw[hr] at h
  simp only at h ⊢
  cases ha:M.addAllS l 0 there with
  | inl g=>rw[ha] at h;cases h;rfl
  | inr all=>rw[ha] at h;cases h
theorem planned_checked{there fresh:List M.Pk}{T:List (List UInt8)}(h:addedS there T=.inr fresh):M.plannedS there T=M.checkedS there fresh (there++fresh):=by
 obtain⟨h1,h2⟩:=added_read h
 unfold M.plannedS
 rw[h1]
 simp only[h2]
theorem checked_check{there fresh all:List M.Pk}{f:M.Fa}(h:checkS all=some f):M.checkedS there fresh all=.inl f:=by
 unfold checkS at h
 unfold M.checkedS
 by_cases h1:M.lackingS all≠[]
 ·rw[if_pos h1] at h ⊢;cases h;rfl
 ·rw[if_neg h1] at h ⊢
  by_cases h2:M.barringS all≠[]
  ·rw[if_pos h2] at h ⊢;cases h;rfl
  ·rw[if_neg h2] at h ⊢
   by_cases h3:M.clashingS all≠[]
   ·rw[if_pos h3] at h ⊢;cases h;rfl
   ·rw[if_neg h3] at h;cases h
theorem checked_order{there fresh all:List M.Pk}(h:checkS all=none):M.checkedS there fresh all=match orderR there fresh with | .inl f=>.inl f | .inr l=>.inr (all,l):=by
 unfold checkS at h
 unfold M.checkedS orderR
 by_cases h1:M.lackingS all≠[]
 ·rw[if_pos h1] at h;cases h
 ·rw[if_neg h1] at h ⊢
  by_cases h2:M.barringS all≠[]
  ·rw[if_pos h2] at h;cases h
  ·rw[if_neg h2] at h ⊢
   by_cases h3:M.clashingS all≠[]
   ·rw[if_pos h3] at h;cases h
   ·rw[if_neg h3]
    by_cases h4:M.firstOf (M.orderS there fresh.length fresh []).2≠[]
    ·rw[if_pos h4,if_pos h4]
    ·rw[if_neg h4,if_neg h4]
theorem plan_any(b:Nat)(there:List M.Pk)(xv:Value)(texts:List ByteArray)(w:World)(hM:MaxIs w)(hE:ErrLaid w)(hl:SetIn w b there)(hx:TxtsIn w xv texts)(hxn:texts.length<=10000)(hxs:∀ t∈texts,t.size<=8192)(htn:there.length<=20000)(hts:∀ p∈there,ReadP p):
 Calls Tryz.prog 82 #[.map (some b),xv] w (PlanPost there (M.plannedS there (texts.map fun t=>t.data.toList)) w):=by
 have cA:=addAll_any b there xv texts w hM hE hl hx hxn hxs
 have hTl:(texts.map fun t=>t.data.toList).length<=10000:=by rw[List.length_map];exact hxn
 generalize (texts.map fun t=>t.data.toList)=T at cA hTl ⊢
 obtain⟨ax,cx,ex⟩:=hx.form
 subst ex
 have HL:=hid hl
 have HTs:=hid hts
 clear hM hE hl hx hxs hts
 go_enter Tryz.func82,Tryz.ntmps82
 go_wp2_with fail
 refine cA.mono ?_
 rintro e w2 ⟨hB2,hm⟩
 clear cA
 cases hr:addedS there T with
 | inl f=>
  rw[hr] at hm
  obtain⟨ev,rfl,fb,rfl,hF⟩:=hm
  have HP:Hid (M.plannedS there T=.inl f):=plannedS_fault hr
  have HF:Hid (ErrIs f w2 (.iface 91 (.pointer (some ⟨fb,0,none⟩)))):=⟨fb,rfl,hF⟩
  clear hr hF
  go_wp2
  refine bodyPost_ret (v:=.tuple #[.map none,.slice none 0 0,.iface 91 (.pointer (some ⟨fb,0,none⟩))]) (by simp[results,Tryz.results82,go_sem]) rfl ⟨hB2,?_⟩
  rw[HP.out]
  exact⟨_,rfl,HF.out⟩
 | inr fresh=>
  rw[hr] at hm
  obtain⟨nb,rfl,hS⟩:=hm
  obtain⟨k1,k2⟩:=added_read hr
  obtain⟨k3,k4⟩:=read_all k1
  have HS:=hid hS
  have HK4:=hid k4
  have HAp:Hid (M.Apart (there++fresh)):=M.addAll_apart _ _ _ _ k2 HL.out.apart
  have HC:Hid (M.plannedS there T=M.checkedS there fresh (there++fresh)):=planned_checked hr
  have hlen:(there++fresh).length<=30000:=by rw[List.length_append];omega
  have cW:=with_any b nb there fresh w2 (HL.out.below hB2) hS HAp.out (by omega)
  have hfl:fresh.length<=10000:=by omega
  clear hr hS k1 k2 k3 k4
  go_wp2_with (go_at_call 134;refine cW.mono ?_;rintro e w3 ⟨b3,rfl,hS3,hB3⟩)
  have cK:=check_any b3 (there++fresh) w3 hS3 (by omega) (fun p hp=>(List.mem_append.1 hp).elim (HTs.out p) (HK4.out p))
  refine cK.mono ?_
  rintro e w4 ⟨hB4,hm⟩
  have HB4:Hid (Below w2.heap.size w2 w4):=bt hB3 hB4
  clear cW cK hS3 hB3 hB4
  cases hc:checkS (there++fresh) with
  | some f=>
   rw[hc] at hm
   obtain⟨ev,rfl,fb,rfl,hF⟩:=hm
   have HP:Hid (M.plannedS there T=.inl f):=by show _ = _;rw[HC.out];exact checked_check hc
   have HF:Hid (ErrIs f w4 (.iface 91 (.pointer (some ⟨fb,0,none⟩)))):=⟨fb,rfl,hF⟩
   clear hc hF
   go_wp2
   refine bodyPost_ret (v:=.tuple #[.map none,.slice none 0 0,.iface 91 (.pointer (some ⟨fb,0,none⟩))]) (by simp[results,Tryz.results82,go_sem]) rfl ⟨bt hB2 HB4.out,?_⟩
   rw[HP.out]
   exact⟨_,rfl,HF.out⟩
  | none=>
   rw[hc] at hm
   subst hm
   have cO:=qorder_any b nb there fresh w4 ((HL.out.below hB2).below HB4.out) (HS.out.below HB4.out) hfl HTs.out HK4.out
   have HO:Hid (M.plannedS there T=match orderR there fresh with | .inl f=>.inl f | .inr l=>.inr (there++fresh,l)):=by show _ = _;rw[HC.out];exact checked_order hc
   clear hc
   go_wp2_with fail
   refine cO.mono ?_
   rintro e w5 ⟨hB5,hm⟩
   have HB:Hid (Below w.heap.size w w5):=bt (bt hB2 HB4.out) hB5
   have HS5:Hid (SetIn w5 nb fresh):=(HS.out.below HB4.out).below hB5
   have hbase:w.heap.size<=w4.heap.size:=Nat.le_trans hB2.size HB4.out.size
   clear cO
   cases ho:orderR there fresh with
   | inl f=>
    rw[ho] at hm
    obtain⟨ev,rfl,fb,rfl,hF⟩:=hm
    have HP:Hid (M.plannedS there T=.inl f):=by show _ = _;rw[HO.out,ho]
    have HF:Hid (ErrIs f w5 (.iface 91 (.pointer (some ⟨fb,0,none⟩)))):=⟨fb,rfl,hF⟩
    clear ho hF
    go_wp2
    refine bodyPost_ret (v:=.tuple #[.map none,.slice none 0 0,.iface 91 (.pointer (some ⟨fb,0,none⟩))]) (by simp[results,Tryz.results82,go_sem]) rfl ⟨HB.out,?_⟩
    rw[HP.out]
    exact⟨_,rfl,HF.out⟩
   | inr l=>
    rw[ho] at hm
    obtain⟨v,rfl,hv⟩:=hm
    have HP:Hid (M.plannedS there T=.inr (there++fresh,l)):=by show _ = _;rw[HO.out,ho]
    have HV:Hid (w5.ownsRow w.heap.size 9 1 v l.length (nmCells l)):=ownsRow_base_a hv hbase
    obtain⟨av,cv,ev⟩:=own_form hv
    subst ev
    clear ho hv
    go_wp2
    refine bodyPost_ret (v:=.tuple #[.map (some nb),.slice av l.length cv,.nilIface]) (by simp[results,Tryz.results82,go_sem]) rfl ⟨HB.out,?_⟩
    rw[HP.out]
    exact⟨_,_,fresh,rfl,HS5.out,rfl,HAp.out,HK4.out,HV.out⟩
def NamesPost(R:Sum M.Fa (List M.Pk × List (List UInt8)))(w:World)(e:Ending)(w':World):Prop:=
 Below w.heap.size w w'/\match R with
  | .inl f=>∃ ev,e=.returned (.tuple #[.slice none 0 0,ev])/\ErrIs f w' ev
  | .inr (_,names)=>∃ v,e=.returned (.tuple #[v,.nilIface])/\w'.ownsRow w.heap.size 9 1 v names.length (nmCells names)
theorem plans_any(b:Nat)(there:List M.Pk)(xv:Value)(texts:List ByteArray)(w:World)(hM:MaxIs w)(hE:ErrLaid w)(hl:SetIn w b there)(hx:TxtsIn w xv texts)(hxn:texts.length<=10000)(hxs:∀ t∈texts,t.size<=8192)(htn:there.length<=20000)(hts:∀ p∈there,ReadP p):
 Calls Tryz.prog 38 #[.map (some b),xv] w (NamesPost (M.plannedS there (texts.map fun t=>t.data.toList)) w):=by
 have cA:=plan_any b there xv texts w hM hE hl hx hxn hxs htn hts
 generalize M.plannedS there (texts.map fun t=>t.data.toList)=R at cA ⊢
 clear hM hE hl hx hxs hts
 go_enter Tryz.func38,Tryz.ntmps38
 go_wp2_with fail
 refine cA.mono ?_
 rintro e w2 ⟨hB2,hm⟩
 clear cA
 cases R with
 | inl f=>
  obtain⟨ev,rfl,fb,rfl,hF⟩:=hm
  have HF:Hid (ErrIs f w2 (.iface 91 (.pointer (some ⟨fb,0,none⟩)))):=⟨fb,rfl,hF⟩
  clear hF
  go_wp2
  refine bodyPost_ret (v:=.tuple #[.slice none 0 0,.iface 91 (.pointer (some ⟨fb,0,none⟩))]) (by simp[results,Tryz.results38,go_sem]) rfl ⟨hB2,?_⟩
  exact⟨_,rfl,HF.out⟩
 | inr q=>
  obtain⟨all,l⟩:=q
  obtain⟨nb,v,fresh,rfl,_,_,_,_,hv⟩:=hm
  have HV:=hid hv
  obtain⟨av,cv,ev⟩:=own_form hv
  subst ev
  clear hv
  go_wp2
  refine bodyPost_ret (v:=.tuple #[.slice av l.length cv,.nilIface]) (by simp[results,Tryz.results38,go_sem]) rfl ⟨hB2,?_⟩
  exact⟨_,rfl,HV.out⟩
theorem planned_len{there all:List M.Pk}{T names:List (List UInt8)}(h:M.plannedS there T=.inr (all,names)):all.length=there.length+T.length:=by
 unfold M.plannedS at h
 cases hr:M.readAllS T 0 [] with
 | inl f=>rw[hr] at h;cases h
 | inr fresh=>
  rw[hr] at h
  simp only at h
  cases ha:M.addAllS fresh 0 there with
  | inl f=>rw[ha] at h;cases h
  | inr al=>
   rw[ha] at h
   simp only at h
   have e:=M.addAll_is _ _ _ _ ha
   have hl:=M.readAll_len _ _ _ _ hr
   have:all=al:=by
    unfold M.checkedS at h
    split at h
    ·cases h
    ·split at h
     ·cases h
     ·split at h
      ·cases h
      ·split at h
       ·cases h
       ·cases h;rfl
   rw[this,e,List.length_append]
   simp at hl
   omega
theorem install_any(b:Nat)(room:Nat)(there:List M.Pk)(xv:Value)(texts:List ByteArray)(w:World)(hR:Ready w)(hl:SetIn w b there)(hx:TxtsIn w xv texts)(hxn:texts.length<=10000)(hxs:∀ t∈texts,t.size<=8192)(htn:there.length<=20000)(hts:∀ p∈there,ReadP p):
 Calls Tryz.prog 83 #[.map (some b),xv,.int .i64 room] w (AddedPost (M.installedS there (texts.map fun t=>t.data.toList) room) w):=by
 have cP:=plan_any b there xv texts w hR.2 hR.1 hl hx hxn hxs htn hts
 have HTl:Hid ((texts.map fun t=>t.data.toList).length<=10000):=by show _<=_;rw[List.length_map];exact hxn
 obtain⟨ax,cx,ex⟩:=hx.form
 subst ex
 generalize (texts.map fun t=>t.data.toList)=T at cP HTl ⊢
 have HL:=hid hl
 have HTs:=hid hts
 clear hR hl hx hxs hts
 go_enter Tryz.func83,Tryz.ntmps83
 go_wp2_with fail
 refine cP.mono ?_
 rintro e w2 ⟨hB2,hm⟩
 clear cP
 cases hp:M.plannedS there T with
 | inl f=>
  rw[hp] at hm
  obtain⟨ev,rfl,fb,rfl,hF⟩:=hm
  have HP:Hid (M.installedS there T room=.inl f):=by show _ = _;unfold M.installedS;rw[hp]
  have HF:Hid (ErrIs f w2 (.iface 91 (.pointer (some ⟨fb,0,none⟩)))):=⟨fb,rfl,hF⟩
  clear hp hF
  go_wp2
  refine bodyPost_ret (v:=.tuple #[.map none,.iface 91 (.pointer (some ⟨fb,0,none⟩))]) (by simp[results,Tryz.results83,go_sem]) rfl ⟨hB2,?_⟩
  rw[HP.out]
  exact⟨_,rfl,HF.out⟩
 | inr q=>
  obtain⟨all,names⟩:=q
  rw[hp] at hm
  obtain⟨nb,v,fresh,rfl,hS,rfl,hAp,hfr,hv⟩:=hm
  have hln:=planned_len hp
  obtain⟨av,cv,ev⟩:=own_form hv
  subst ev
  have hlen:(there++fresh).length<=30000:=by have:=HTl.out;omega
  have hRd:∀ p∈there++fresh,ReadP p:=fun p hp=>(List.mem_append.1 hp).elim (HTs.out p) (hfr p)
  have hsz:=size_le hRd
  have HI:Hid (M.installedS there T room=if (room:Int)<M.sizeS (there++fresh) then .inl ⟨8,0,0,[]⟩ else .inr (there++fresh)):=by show _ = _;unfold M.installedS;rw[hp]
  have cW:=with_any b nb there fresh w2 (HL.out.below hB2) hS hAp (by rw[<-List.length_append];omega)
  have HRd:=hid hRd
  have hszb:M.sizeS (there++fresh)<=9000000:=by omega
  clear hp hln hv hS hAp hfr hRd hsz hlen
  go_wp2_with (go_at_call 134;refine cW.mono ?_;rintro e w3 ⟨ab,rfl,hS3,hB3⟩)
  have cS:=qsize_any ab (there++fresh) w3 hS3 HRd.out (by omega)
  have HS3:=hid hS3
  generalize hZ:M.sizeS (there++fresh)=Z at cS HI hszb
  clear hS3 cW hZ
  refine cS.mono ?_
  rintro e w4 ⟨rfl,hB4⟩
  have HB:Hid (Below w.heap.size w w4/\SetIn w4 ab (there++fresh)):=⟨bt (bt hB2 hB3) hB4,HS3.out.below hB4⟩
  clear cS hB2 hB3 hB4
  by_cases hlt:room<Z
  ·have HE:Hid (M.installedS there T room=.inl ⟨8,0,0,[]⟩):=by show _ = _;rw[HI.out,if_pos (by omega)]
   go_wp2
   have hB5:Below w4.heap.size w4 (w4.alloc (.cells #[.int .i64 8,.int .i64 0,.int .i64 0,.string ⟨#[]⟩] 96)):=(Below.refl _ w4).alloc ler _
   refine bodyPost_ret (v:=.tuple #[.map none,.iface 91 (.pointer (some ⟨w4.heap.size,0,none⟩))]) (by simp[results,Tryz.results83,go_sem]) rfl ⟨bt HB.out.1 hB5,?_⟩
   rw[HE.out]
   exact⟨_,rfl,w4.heap.size,rfl,fault_new 8 0 0 ⟨#[]⟩ _⟩
  ·have HE:Hid (M.installedS there T room=.inr (there++fresh)):=by show _ = _;rw[HI.out,if_neg (by omega)]
   go_wp2
   refine bodyPost_ret (v:=.tuple #[.map (some ab),.nilIface]) (by simp[results,Tryz.results83,go_sem]) rfl ⟨HB.out.1,?_⟩
   rw[HE.out]
   exact⟨ab,rfl,HB.out.2⟩
theorem mClone_any(b:Nat)(L:List KV)(w:World)(h:StrMap Tryz.prog 9 w b L):
 Calls Tryz.prog 139 #[.map (some b)] w fun e w'=>e=.returned (.map (some w.heap.size))/\StrMap Tryz.prog 9 w' w.heap.size L/\Below w.heap.size w w':=by
 obtain⟨n,es,⟨xs,clock,h0,h1⟩,h2⟩:=h
 have hq:=fun w=>run_eql_map_nil_sl (P:=Tryz.prog) w 108 _ _ (some b) setMap
 have hS:StrMap Tryz.prog 9 (w.alloc (.map xs clock)) w.heap.size L:=⟨n,es,⟨xs,clock,heap_alloc_new w _,h1⟩,h2⟩
 have HS:=hid hS
 clear hS h1 h2
 go_enter Tryz.func139,Tryz.ntmps139
 go_wp2
 rw[run_callFunc_extern Tryz.func191 (by kernel_rfl) (by kernel_rfl) (by kernel_rfl) (e:=Extern.MapsClone.clone) (by kernel_rfl),run_maps_clone_sl w 108 h0]
 simp only[Result.andThen]
 rw[Oper.upon_value]
 go_wp2
 rw[run_typeAssert_map_sl _ 108 20 _ _ _ setMap]
 simp only[Result.andThen]
 rw[Oper.upon_value]
 go_wp2
 go_ret
 exact⟨rfl,HS.out,(Below.refl _ w).alloc ler _⟩
namespace M
theorem drop_filter{n:List UInt8}:∀ {all:List Pk} {k:Nat},Apart all->all.findIdx? (fun p=>p.name == n)=some k->all.take k++all.drop (k+1)=all.filter (fun p=>p.name != n)
 | [],k,_,h=>by simp at h
 | p :: l,k,ha,h=>by
  have hap:=List.nodup_cons.1 (show (p.name :: l.map Pk.name).Nodup from ha)
  rw[List.findIdx?_cons] at h
  by_cases hp:p.name=n
  ·rw[if_pos (by simpa using hp)] at h
   cases h
   rw[List.take_zero,List.nil_append,List.drop_succ_cons,List.drop_zero,List.filter_cons_of_neg (by simp[hp]),List.filter_eq_self.2]
   intro q hq
   simp only[bne_iff_ne,ne_eq]
   exact fun e=>hap.1 (by rw[hp,<-e];exact List.mem_map.2 ⟨q,hq,rfl⟩)
  ·rw[if_neg (by simpa using hp)] at h
   obtain⟨j,hj,rfl⟩:=Option.map_eq_some_iff.1 h
   rw[List.take_succ_cons,List.drop_succ_cons,List.cons_append,drop_filter hap.2 hj,List.filter_cons_of_pos (by simpa using hp)]
end M
theorem drop_map(l:List M.Pk)(f:M.Pk->Value)(n:List UInt8):dropK (l.map fun p=>(p.name,f p)) n=(l.filter (fun p=>p.name != n)).map fun p=>(p.name,f p):=by
 unfold dropK
 rw[List.filter_map]
 rfl
theorem find_none{l:List M.Pk}{f:M.Pk->Value}{n:List UInt8}(h:lookK (l.map fun p=>(p.name,f p)) n=none):l.findIdx? (fun p=>p.name == n)=none:=by
 rw[List.findIdx?_eq_none_iff]
 intro p hp
 have:=look_none.1 h _ (List.mem_map.2 ⟨p,hp,rfl⟩)
 simpa using this
theorem find_some{l:List M.Pk}{f:M.Pk->Value}{n:List UInt8}{v:Value}(h:lookK (l.map fun p=>(p.name,f p)) n=some v):∃ k,l.findIdx? (fun p=>p.name == n)=some k:=by
 cases hf:l.findIdx? (fun p=>p.name == n) with
 | some k=>exact⟨k,rfl⟩
 | none=>
  have:lookK (l.map fun p=>(p.name,f p)) n=none:=look_none.2 (fun q hq=>by
   obtain⟨p,hp,rfl⟩:=List.mem_map.1 hq
   have:=List.findIdx?_eq_none_iff.1 hf p hp
   simpa using this)
  rw[this] at h
  cases h
end Go.Proofs.YtgnfknjopafngabGreatDoor
