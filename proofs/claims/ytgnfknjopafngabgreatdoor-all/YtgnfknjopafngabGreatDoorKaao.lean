import Derived.Test.YtgnfknjopafngabGreatDoorKaan
import Derived.Shelf.SlMaps.Clone
set_option maxRecDepth 100000
set_option maxHeartbeats 16000000
namespace Go.Proofs.YtgnfknjopafngabGreatDoor
open Go.RowKit Go.Maps
def Z55(R:Sum M.Fa (List (List UInt8)))(w:World)(e:Ending)(w':World):Prop:=
 Below w.heap.size w w'/\match R with
  | .inl f=>∃ ev,e=.returned (.tuple #[.slice none 0 0,ev])/\Zgd f w' ev
  | .inr l=>∃ v,e=.returned (.tuple #[v,.nilIface])/\w'.ownsRow w.heap.size 9 1 v l.length (Zaa l)
theorem Zu2{w w':World}(h:Below w.heap.size w w')(row:Option Nat):w.grownBy w' row:=⟨h.os,h.tape,h.output,h.size,fun k hk _=>h.block k hk⟩
structure Zsx (qQ qZ:List M.Pk) (E:List (List UInt8 × List UInt8)) (W2:World) (wb:Nat) (rv dv:Value) (wr:World) (left:List M.Pk) (done ready:List (List UInt8)) (c:List UInt8->Nat):Prop where
 kahn:Zo4 qQ qZ left done ready c
 len:done.length+left.length<=qZ.length
 row:MidRow wr W2.heap.size rv ready
 own:wr.ownsRow W2.heap.size 9 1 dv done.length (Zaa done)
 apart:∀ g,rv.ownBlock=some g->dv.ownBlock≠some g
 cnt:Zdt wr wb c E.length
 grown:W2.grownBy wr (some wb)
theorem Z0x(bi ba:Nat)(qQ qZ:List M.Pk)(w:World)(hi:Zaw w bi qQ)(hf:Zaw w ba qZ)(hn:qZ.length<=10000)(hst:∀ q∈qQ,Zbb q)(hsf:∀ q∈qZ,Zbb q):
 Calls Tryz.prog 136 #[.map (some bi),.map (some ba)] w (Z55 (Zix qQ qZ) w):=by
 obtain⟨i0,hi0,hz0,hz1,hz2⟩:=info_parts Zco
 have cL:=Z3n bi ba qQ qZ w hi hf hn hst hsf
 have HF:=hid hf
 have HA:=hid hf.apart
 have HSF:=hid hsf
 have cN:=fun wx (hb:Below w.heap.size w wx)=>Zis ba qZ wx (HF.out.below hb) (by omega)
 clear hi hf hst hsf
 go_enter Tryz.func136,Tryz.ntmps136
 go_upto_region 3 with (first
  | (go_at_call 180;refine cL.mono ?_;rintro e w1 ⟨wb,bb,E,rfl,hQ,hne,hwb,hbb,hB1⟩;generalize hA1:w1.alloc (.cells #[.map (some wb),.map (some bb)] 280)=A1;have gA:w1.grownBy A1 none:=by rw[<-hA1];exact World.grownBy_alloc w1 _ none)
  | (go_at_call 141;refine(cN A1 (bt hB1 (Zdq gA))).mono ?_;rintro e w2 ⟨nv,rfl,hnv,hB2⟩)
  | go_in)
 have hAs:A1.heap.size=w1.heap.size+1:=by rw[<-hA1];simp
 have q0:w2.cell? ⟨w1.heap.size,0,none⟩=some (.map (some wb)):=(hB2.cell (p:=⟨w1.heap.size,0,none⟩) (by show w1.heap.size < _;omega)).trans (by rw[<-hA1];exact Zbk w1 [.map (some wb),.map (some bb)] _ 0 _ rfl)
 have q1:w2.cell? ⟨w1.heap.size,1,none⟩=some (.map (some bb)):=(hB2.cell (p:=⟨w1.heap.size,1,none⟩) (by show w1.heap.size < _;omega)).trans (by rw[<-hA1];exact Zbk w1 [.map (some wb),.map (some bb)] _ 1 _ rfl)
 obtain⟨qG,hnm⟩:∃ qG,qG=M.Zdc (qZ.map M.Pk.name):=⟨_,rfl⟩
 have hnl:qG.length=qZ.length:=by rw[hnm,(M.Zbh _).length_eq,List.length_map]
 rw[<-hnm,<-hnl] at hnv
 have HRis:Hid (M.Zcj qG):=by show M.Zcj _;rw[hnm];exact M.Zdy HA.out
 have HMem:Hid (∀ x,x∈qG↔∃ p∈qZ,p.name=x):=by rw[hnm];exact fun x=>Z16 x
 have hwl:wb<w1.heap.size:=hQ.1.lt
 have hC2:Zcz w2 wb (Zh4 E) E.length:=(hQ.1.kept gA (by simp)).below hB2 (hQ.1.kept gA (by simp)).lt
 have HQ1:=hid hC2.at
 have HQ2:Hid (RowsIn w2 w.heap.size bb (Zly E) E.length):=(hQ.2.1.alloc gA).below hB2
 have HQ3:=hid hQ.2.2
 have HX:Hid (∀ x∈qG,x.length<=100000):=fun x hx=>by
  obtain⟨p,hp,rfl⟩:=(HMem.out x).1 hx
  exact Nat.le_trans (HSF.out p hp).short.name (by omega)
 have cC:=fun wx (hb:Below w2.heap.size w2 wx)=>Z3k A1.heap.size nv qG wx (own_below hnv hb) (by omega)
 have cD:=fun wx v (hb:Below w2.heap.size w2 wx) (hv:wx.ownsRow w2.heap.size 9 1 v qG.length (Zaa qG))=>Zxf wb bb E.length w2.heap.size (Zh4 E) v qG wx (HQ1.out.below hb HQ1.out.lt) hv HX.out (by omega)
 have hs2:=hB2.size
 have HBw:Hid (Below w.heap.size w w2):=bt (bt hB1 (Zdq gA)) hB2
 have HNv:=hid hnv
 have HWb:Hid (w.heap.size<=wb/\wb<w1.heap.size/\wb≠bb/\A1.heap.size=w1.heap.size+1/\A1.heap.size<=w2.heap.size):=⟨hwb,hwl,hne,hAs,hs2⟩
 clear hA1 hnm cL cN hQ hC2 hnv hwb hwl hne gA hbb hB1
 go_cut [8] (fun s8 wx=>wx.ownsRow w2.heap.size 9 1 s8 (Zd1 (Zh4 E) qG).length (Zaa (Zd1 (Zh4 E) qG))/\Below w2.heap.size w2 wx)
 case first=>
  go_region_with (first
   | (go_at_call 182;refine(cC _ (Zae w2 1)).mono ?_;rintro e w3 ⟨cv,rfl,hcv,hB3⟩;have hB4:Below w2.heap.size w2 w3:=bt (Zae w2 1) hB3;have y0:=(hB4.cell (p:=⟨w1.heap.size,0,none⟩) (by show w1.heap.size < _;omega)).trans q0;have y1:=(hB4.cell (p:=⟨w1.heap.size,1,none⟩) (by show w1.heap.size < _;omega)).trans q1)
   | (go_at_call 181;refine(cD _ _ hB4 hcv).mono ?_;rintro e w5 ⟨dv,rfl,hdv,hg5⟩;have hB5:Below w2.heap.size w2 w5:=hB4.grown hg5 hB4.size (fun j hj=>(hcv.lt j hj).1)))
  all_goals
   go_wp2_with fail
   go_meet
   exact⟨hdv,hB5⟩
 case rest=>
 obtain⟨hr8,hB8⟩:=hcut
 have HK0:Hid (Zo4 qQ qZ qZ [] (Zd1 (Zh4 E) qG) (Zh4 E)):=by
  have hc:∀ p∈qZ,Zh4 E p.name=M.Zlo qZ qQ p:=fun p hp=>Ycj HQ3.out.1 HQ3.out.2.2 HA.out hp
  obtain⟨r1,r2⟩:=Zyj HRis.out HMem.out hc
  exact Zo4.start HA.out (fun p hp=>(HSF.out p hp).name) hc r1 r2
 obtain⟨a8,c8,e8⟩:=Zac hr8
 subst e8
 obtain⟨an,cn,en⟩:=Zac HNv.out
 subst en
 have HR8:=hid hr8
 have HB8:=hid hB8
 have HB2:=hid hB2
 have HN:=hid hn
 have HQ:Hid (w2.cell? ⟨w1.heap.size,0,none⟩=some (.map (some wb))/\w2.cell? ⟨w1.heap.size,1,none⟩=some (.map (some bb))):=⟨q0,q1⟩
 have HZ:Hid (Tryz.prog.info? 9=some i0/\i0.zero=some (.string ⟨#[]⟩)/\i0.size=1/\i0.bytes=16):=⟨hi0,hz0,hz1,hz2⟩
 have HNl:=hid hnl
 clear hr8 hB8 cC cD hB2 hAs hs2 hnl hn q0 q1 hi0 hz0 hz1 hz2
 go_wp2
 go_loopw [8,9,10,12,13,14] (fun rv dv _ _ _ _ wr=>∃ (left:List M.Pk) (done ready:List (List UInt8)) (c:List UInt8->Nat),Zsx qQ qZ E w2 wb rv dv wr left done ready c) (fun _ dv _ _ _ _ _=>qZ.length-lenV dv)
 case atStart=>
  have hB9:Below wc.heap.size wc (wc.alloc (.cells #[] 9)):=(Below.refl _ wc).alloc ler _
  have hlt:∀ g,(Value.slice a8 (Zd1 (Zh4 E) qG).length c8).ownBlock=some g->w2.heap.size<=g/\g<wc.heap.size:=fun g hg=>HR8.out.lt g hg
  refine⟨qZ,[],Zd1 (Zh4 E) qG,Zh4 E,HK0.out,by simp,MidRow.own (own_below HR8.out hB9),?_,?_,?_,?_⟩
  ·exact⟨rfl,.inr ⟨wc.heap.size,0,#[],rfl,HB8.out.size,heap_alloc_new wc _,Nat.le_refl _,by unfold maxLen;omega,rfl,rfl⟩⟩
  ·intro g hg h
   have:=hlt g hg
   have e:wc.heap.size=g:=Option.some.inj h
   omega
  ·have hw:=HWb.out
   exact(HQ1.out.below HB8.out HQ1.out.lt).below hB9 (by have:=HB8.out.size;omega)
  ·have h9:=bt HB8.out hB9
   exact⟨h9.os,h9.tape,h9.output,h9.size,fun k hk _=>h9.block k hk⟩
 case round=>
  obtain⟨left,done,ready,c,H⟩:=hrel
  obtain⟨W0,hW0⟩:∃ W,W=wr:=⟨_,rfl⟩
  subst hW0
  obtain⟨ad,cd,ed⟩:=Zac H.own
  subst ed
  have hw:=HWb.out
  have hq:=HQ.out
  have hkb:=fun k o (h1:k<w2.heap.size) (h2:k≠wb)=>World.cell?_of_block (a:=⟨k,o,none⟩) (H.grown.block k h1 (fun e=>h2 (Option.some.inj e)))
  cases ready with
  | nil=>
   have H':=H.row
   obtain⟨a0,cp0,e0,_⟩:=H'
   subst e0
   have hnv:=HNv.out.kept H.grown (.inr (fun e=>by have:=HNv.out.lt _ e;omega))
   have hrow:=Zas.wide (Zas.own hnv) (Nat.zero_le _) ler
   have z0:=(hkb w1.heap.size 0 (by omega) (by omega)).trans hq.1
   have z1:=(hkb w1.heap.size 1 (by omega) (by omega)).trans hq.2
   have hnl:qG.length<=10000:=by have:=HNl.out;have:=HN.out;omega
   have cX:=Zr7 wb bb E.length c (.slice an qG.length cn) qG W0 H.cnt hrow HX.out (by omega)
   have HH:=hid H
   have HRw:=hid hrow
   have hBW:Below w.heap.size w W0:=HBw.out.grown H.grown HBw.out.size (fun j hj=>by have:=Option.some.inj hj;omega)
   have HBW:Hid (Below w.heap.size w W0/\w.heap.size<=w2.heap.size):=⟨hBW,HBw.out.size⟩
   clear H hkb hq hnv hrow hBW
   go_wp2_with fail
   refine cX.mono ?_
   rintro e w6 ⟨⟨rfl,h0⟩|⟨j,hj,rfl,hc,hb⟩,hB6⟩
   ·have HA0:Hid (Zix qQ qZ=.inr done):=Z2c (HH.out.kahn.all HMem.out h0)
    clear h0 cX
    go_wp2
    refine bodyPost_ret (v:=.tuple #[.slice ad done.length cd,.nilIface]) (by simp[results,Tryz.results136,go_sem]) rfl ⟨bt HBW.out.1 hB6,?_⟩
    rw[HA0.out]
    exact⟨_,rfl,ownsRow_base_a (own_below HH.out.own hB6) HBW.out.2⟩
   ·obtain⟨k1,k2⟩:=HH.out.kahn.stuck HMem.out HRis.out j hj hc hb
    have HA0:Hid (Zix qQ qZ=.inl ⟨7,0,0,qG[j]⟩):=Zv7 k1 k2
    obtain⟨gb,eb,hgb,hcap,hcl⟩:=HRw.out.cellAt (by omega)
    subst eb
    have p0:w6.cell? ⟨gb,j,none⟩=some (.string ⟨qG[j].toArray⟩):=(hB6.cell (p:=⟨gb,j,none⟩) hgb).trans (hcl j _ (by simp[Zaa,hj,Zbe]))
    generalize hNj:qG[j]=nj at p0 HA0
    have HB6:Hid (Below w.heap.size w w6):=bt HBW.out.1 hB6
    clear hb hc k1 k2 cX hcl hNj z0 z1
    go_wp2
    go_region
    all_goals
     go_wp2
     refine bodyPost_ret (v:=.tuple #[.slice none 0 0,.iface 91 (.pointer (some ⟨w6.heap.size,0,none⟩))]) (by simp[results,Tryz.results136,go_sem]) rfl ⟨?_,?_⟩
     ·exact below_drewN (HB6.out.alloc HB6.out.size _) 1
     ·rw[HA0.out]
      exact⟨_,rfl,_,rfl,Zmd (Zff (w:=w6) 7 0 0 ⟨nj.toArray⟩ 96)⟩
  | cons n r=>
   obtain⟨g,off,cap,e8,hc1,hc2,hcell⟩:=H.row.head
   subst e8
   obtain⟨a',ha',hsl⟩:=Z0z g off r.length cap
   obtain⟨N,hN⟩:∃ N:ByteArray,N=⟨n.toArray⟩:=⟨_,rfl⟩
   have hNd:N.data.toList=n:=by rw[hN]
   rw[<-hN] at hcell
   have hlt0:=H.row.lt g rfl
   have hdl:=H.len
   obtain⟨hi0,hz0,hz1,hz2⟩:=HZ.out
   have hnn:=HN.out
   have hown9:=H.own
   have HH:=hid H
   have HNd:=hid hNd
   have hpos:(0:Int)<((r.length+1:Nat):Int):=by omega
   clear H hN hNd hkb hq
   go_wp2_with (first
    | (at_builtin;refine wpList_append_own_at _ rfl _ _ 41 rfl w2.heap.size 9 i0 (.string ⟨#[]⟩) 1 16 Tryz.underlying41 hi0 hz0 hz1 hz2 rfl (by decide) _ _ _ rfl (hown9.alloc _) ⟨W0.heap.size,0,none⟩ 1 1 [.string N] rfl rfl ?c1 ?c2 ?c3 ?c4 ?c5 ?_)
    | go_in)
   case c1=>exact Zca _ _ _
   case c2=>intro u hu;simp at hu;subst hu;rfl
   case c3=>unfold maxLen;omega
   case c4=>omega
   case c5=>simp;omega
   intro v9 w4 hown4 hgrow _ hat
   have H:=HH.out
   have hNd:=HNd.out
   have G04:W0.grownBy w4 (Value.slice ad done.length cd).ownBlock:=Zfm (World.grownBy_alloc W0 _ _) hgrow (fun j hj=>.inl hj)
   have hdb:∀ j,(Value.slice ad done.length cd).ownBlock=some j->w2.heap.size<=j/\j<W0.heap.size:=fun j hj=>H.own.lt j hj
   obtain⟨row4,hb4⟩:=MidRow.tail (H.row.kept G04 (fun j hj e=>H.apart j hj e)) ha'
   have cnt4:Zdt w4 wb c E.length:=H.cnt.kept G04 (fun e=>by have:=hdb wb e.symm;omega)
   have grown4':w2.grownBy w4 (some wb):=Zfm H.grown G04 (fun j hj=>.inr (hdb j hj).1)
   have hkb4:=fun k o (h1:k<w2.heap.size) (h2:k≠wb)=>World.cell?_of_block (a:=⟨k,o,none⟩) (grown4'.block k h1 (fun e=>h2 (Option.some.inj e)))
   have y0:w4.cell? ⟨w1.heap.size,0,none⟩=some (.map (some wb)):=(hkb4 w1.heap.size 0 (by omega) (by omega)).trans HQ.out.1
   have y1:w4.cell? ⟨w1.heap.size,1,none⟩=some (.map (some bb)):=(hkb4 w1.heap.size 1 (by omega) (by omega)).trans HQ.out.2
   have rows4:RowsIn w4 w.heap.size bb (Zly E) E.length:=HQ2.out.kept grown4' hw.2.2.1 HQ1.out.no_cells
   have hg4:g<w4.heap.size:=Nat.lt_of_lt_of_le hlt0.2 G04.size
   have hap:v9.ownBlock≠some g:=fun e=>by
    rcases hat with h|h
    ·rw[h] at e
     exact H.apart g rfl e
    ·rw[h] at e
     have:=Option.some.inj e
     omega
   have hv9:∀ j,v9.ownBlock=some j->j<w4.heap.size:=fun j hj=>(hown4.lt j hj).2
   obtain⟨a9,c9,e9⟩:=Zac hown4
   subst e9
   have hB:=Ybz (n:=n) HQ3.out.2.2
   have hnd:=row_nodup HQ3.out.1 n
   obtain⟨k1,k2⟩:=H.kahn.step hnd hB
   have hmid:=fun j=>H.kahn.mid (B:=Zly E n) hnd j
   have hlen2:=k2.ready_len
   have hless:=H.kahn.less
   have hxx:∀ x∈Zly E n,1<=c x/\c x<=1000000000/\x.length<=100000:=fun x hx=>by
    obtain⟨p,hp,_,_,rfl,_,_⟩:=(hB x).1 hx
    have h1:=H.kahn.cnt_le hp
    exact⟨k1 _ hx,by omega,Nat.le_trans (HSF.out p hp).short.name (by omega)⟩
   have hsz:N.size<=maxLen:=by
    obtain⟨p,hp,_,e⟩:=(H.kahn.free n).1 (by simp)
    have h1:=(HSF.out p (H.kahn.sub p hp)).short.name
    rw[Zcy hNd,e]
    unfold maxLen
    omega
   have cS:=Z3x wb bb w.heap.size E.length E.length c (Zly E) N w4 cnt4 rows4 hsz (by rw[hNd];exact hnd) (by rw[hNd];exact hxx) HQ3.out.2.1 (by rw[hNd];have:=Z48 E n;have:=HQ3.out.2.1;omega)
   rw[hNd] at cS
   generalize hfd:Zcm c (Zly E n)=freed at cS k2 hmid hlen2
   rw[Zht] at hlen2
   have HK:=hid k2
   have HMid:=hid hmid
   have HLen:Hid (freed.length+r.length<=10000):=by show _<=_;omega
   have HLess:Hid ((done++[n]).length+(left.filter fun p=>p.name != n).length<=qZ.length/\done.length<qZ.length):=by
    refine⟨?_,?_⟩
    ·rw[List.length_append,List.length_singleton];omega
    ·omega
   have HRow4:Hid (MidRow w4 w2.heap.size (.slice a' r.length (cap-1)) r/\(Value.slice a' r.length (cap-1)).ownBlock=some g):=⟨row4,hb4⟩
   have HOwn4:Hid (w4.ownsRow w2.heap.size 9 1 (.slice a9 (done.length+1) c9) (done.length+1) (Zaa (done++[n]))):=by
    have e:Zaa (done++[n])=Zaa done++[.string N]:=by
     unfold Zaa
     rw[List.map_append,<-hNd]
     rfl
    show World.ownsRow _ _ _ _ _ _ _
    rw[e]
    exact hown4
   have HG4:Hid (w2.grownBy w4 (some wb)/\g<w4.heap.size/\w2.heap.size<=g/\(Value.slice a9 (done.length+1) c9).ownBlock≠some g):=⟨grown4',hg4,hlt0.1,hap⟩
   clear H hNd hgrow hat G04 hdb row4 hb4 cnt4 grown4' hkb4 rows4 hB hnd k1 k2 hmid hlen2 hless hxx hsz hown4 hown9 hap hv9 hcell hi0 hz0 hz1 hz2 hfd hdl hnn
   go_wp2_with (first
    | (go_at_call 184;refine cS.mono ?_;rintro e w5 ⟨fv,rfl,hfr,hc5,hg5⟩;obtain⟨af,cf,ef⟩:=Zac hfr;subst ef)
    | go_in)
   have HFr:Hid (∀ j (hj:j<freed.length),∃ fb,af=some ⟨fb,0,none⟩/\w4.heap.size<=fb/\fb<w5.heap.size/\freed.length<=cf/\w5.cell? ⟨fb,j,none⟩=some (Zbe freed[j])):=fun j hj=>by
    have hfr':=hfr
    obtain⟨_,⟨h,h0⟩|⟨fb,cap2,cur,h,hb,hcc,h2,_⟩⟩:=hfr
    ·simp at h0
     rw[h0] at hj
     simp at hj
    ·injection h with e1 _ e3
     subst e1 e3
     refine⟨fb,rfl,hb,(Array.getElem?_eq_some_iff.1 hcc).1,h2,?_⟩
     rw[hfr'.cellAt j (by omega)]
     simp[Zaa,hj]
   have HC5:=hid hc5
   have HG5:=hid hg5
   have hgg:=HG4.out
   have HRow5:Hid (MidRow w5 w2.heap.size (.slice a' r.length (cap-1)) r):=HRow4.out.1.kept hg5 (fun j hj e=>by rw[HRow4.out.2] at hj;have:=Option.some.inj hj;have:=Option.some.inj e;omega)
   have h45:=hg5.size
   clear hfr hc5 hg5 cS y0 y1
   go_loopw [8,12,13,14,43] (fun rv _ _ _ i wr=>∃ j:Nat,i=.int .i64 j/\j<=freed.length/\Hid (MidRow wr w2.heap.size rv (Zd4 (freed.take j) r))/\Hid (rv.ownBlock=some g\/∃ g',rv.ownBlock=some g'/\w5.heap.size<=g')/\Hid (w5.grownBy wr (some g))) (fun _ _ _ _ i _=>freed.length-(intOf i).toNat)
   case atStart=>exact⟨0,rfl,Nat.zero_le _,HRow5,.inl HRow4.out.2,Z21 _ _⟩
   case round=>
    obtain⟨j,rfl,hj,HRow,HOb,HGr⟩:=hrel
    by_cases hjl:j<freed.length
    ·obtain⟨fb,ef,hf1,hf2,hf3,hf4⟩:=HFr.out j hjl
     obtain⟨Y,hY⟩:∃ Y:ByteArray,Y=⟨freed[j].toArray⟩:=⟨_,rfl⟩
     have hYd:Y.data.toList=freed[j]:=by rw[hY]
     have p0:wr.cell? ⟨fb,j,none⟩=some (.string Y):=by
      rw[hY]
      exact(World.cell?_of_block (a:=⟨fb,j,none⟩) (HGr.out.block fb hf2 (fun e=>by have:=Option.some.inj e;omega))).trans hf4
     have hlenx:=Zht (freed.take j) r
     have hlen1:=HLen.out
     rw[List.length_take,Nat.min_eq_left (Nat.le_of_lt hjl)] at hlenx
     have HIns:Hid (Zd4 (freed.take (j+1)) r=(Zd4 (freed.take j) r).take (M.Zf1 Y.data.toList (Zd4 (freed.take j) r))++Y.data.toList :: (Zd4 (freed.take j) r).drop (M.Zf1 Y.data.toList (Zd4 (freed.take j) r))):=by
      show _ = _
      rw[Zxs hjl,<-hYd,M.Z9t]
     have hmid:=HMid.out j
     generalize Zd4 (freed.take j) r=xs at HRow hlenx HIns hmid
     obtain⟨a,cp,e8,hr1,hr2,hr3⟩:=HRow.out
     subst e8
     subst ef
     have hpl:=M.Zne Y.data.toList xs
     have cB:=Z1q a cp xs Y wr hmid (by omega) (fun h0=>by
      obtain⟨_,h,_⟩|⟨g2,off2,cur2,e2,_,_,_,hx⟩:=hr3
      ·rw[h] at h0
       simp at h0
      ·refine⟨g2,off2,e2,fun t ht=>hx t _ ?_⟩
       simp[Zaa,ht,Zbe])
     have cI:=fun wx (hb:Below wr.heap.size wr wx)=>Z2w w2.heap.size wx.heap.size (M.Zf1 Y.data.toList xs) (.slice a xs.length cp) xs Y (wx.alloc (.cells #[.string Y] 9)) (HRow.out.kept (Zu2 (bt hb ((Below.refl _ wx).alloc ler _)) none) (fun _ _=>by simp)) hpl (by omega) (heap_alloc_new wx _) (fun e=>by have:=(HRow.out.lt _ e).2;have:=hb.size;omega) (by have:=HG5.out.size;have:=HG4.out.1.size;have:=HGr.out.size;have:=hb.size;simp;omega)
     have HHb:Hid (xs.length=j+r.length/\M.Zf1 Y.data.toList xs<=xs.length):=⟨hlenx,hpl⟩
     have hjb:j<10000:=by omega
     clear hY hYd hf4 hr3 hmid hlenx hpl hlen1 hr1 hr2
     go_wp2_with (first
      | (go_at_call 185;refine cB.mono ?_;rintro e w6 ⟨bo,rfl,q,hw6⟩;have hB6:Below wr.heap.size wr w6:=by rw[hw6];exact Zae wr q
         have c6:=cI w6 hB6
         clear hw6 cI cB p0)
      | (go_at_call 186;refine c6.mono ?_;rintro e w7 ⟨v7,rfl,hm7,hg7,ho7⟩))
     have hO:=HOb.out
     have h7s:=hg7.size
     have hB7:Below wr.heap.size wr (w6.alloc (.cells #[.string Y] 9)):=bt hB6 ((Below.refl _ w6).alloc ler _)
     have HG7:Hid (w5.grownBy w7 (some g)):=Zfm (Zfm HGr.out (Zu2 hB7 none) (fun j hj=>by cases hj)) hg7 (fun k hk=>by
      rcases hO with h|⟨g',h,hg'⟩
      ·rw[h] at hk
       exact .inl hk
      ·rw[h] at hk
       have:=Option.some.inj hk
       exact .inr (by omega))
     have HO7:Hid (v7.ownBlock=some g\/∃ g',v7.ownBlock=some g'/\w5.heap.size<=g'):=by
      rcases ho7 with h|h
      ·rw[h]
       exact hO
      ·exact .inr ⟨_,h,by have:=HGr.out.size;have:=hB6.size;simp;omega⟩
     have HR7:Hid (MidRow w7 w2.heap.size v7 (Zd4 (freed.take (j+1)) r)):=by
      show MidRow _ _ _ _
      rw[HIns.out]
      exact hm7
     clear hm7 hg7 ho7 c6 hB7 hB6 hO h7s
     go_roundw
     case rel=>exact⟨j+1,by go_num,by omega,HR7,HO7,HG7⟩
     case measure=>simp[intOf];omega
    ·have hjj:j=freed.length:=by omega
     have hrow:=HRow.out
     rw[hjj,List.take_length] at hrow
     have hG2:w5.grownBy wr (some g):=HGr.out
     have HFin:Hid (∃ (left':List M.Pk) (done' ready':List (List UInt8)) (c':List UInt8->Nat),Zsx qQ qZ E w2 wb u8 (.slice a9 (done.length+1) c9) wr left' done' ready' c'):=by
      refine⟨left.filter fun p=>p.name != n,done++[n],Zd4 freed r,Zez c (Zly E n),HK.out,HLess.out.1,hrow,?_,?_,?_,?_⟩
      ·rw[List.length_append]
       have h1:=HOwn4.out.kept HG5.out (.inr (fun e=>by have:=HOwn4.out.lt _ e;omega))
       exact h1.kept hG2 (.inr (fun e=>hgg.2.2.2 e))
      ·intro g' hg' e
       rcases HOb.out with h|⟨g2,h,h2⟩
       ·rw[h] at hg'
        cases hg'
        exact hgg.2.2.2 e
       ·rw[h] at hg'
        cases hg'
        have:=HOwn4.out.lt _ e
        omega
      ·exact HC5.out.kept hG2 (fun e=>by have:=Option.some.inj e;omega)
      ·exact Zfm (Zfm hgg.1 HG5.out (fun k hk=>.inl hk)) hG2 (fun k hk=>.inr (by have:=Option.some.inj hk;omega))
     have hless:=HLess.out.2
     clear hrow hG2
     go_wp2
     go_roundw
     case rel=>exact HFin.out
     case measure=>simp[lenV];omega
def Z84(qQ:List M.Pk)(R:Sum M.Fa (List M.Pk × List (List UInt8)))(w:World)(e:Ending)(w':World):Prop:=
 Below w.heap.size w w'/\match R with
  | .inl f=>∃ ev,e=.returned (.tuple #[.map none,.slice none 0 0,ev])/\Zgd f w' ev
  | .inr (all,qG)=>∃ b v qZ,e=.returned (.tuple #[.map (some b),v,.nilIface])/\Zaw w' b qZ/\all=qQ++qZ/\M.Apart all/\(∀ p∈qZ,Zbb p)/\w'.ownsRow w.heap.size 9 1 v qG.length (Zaa qG)
theorem Zqe{qQ:List M.Pk}{T:List (List UInt8)}{f:M.Fa}(h:Zgq qQ T=.inl f):M.Zar qQ T=.inl f:=by
 unfold Zgq at h
 unfold M.Zar
 cases hr:M.Zav T 0 [] with
 | inl g=>rw[hr] at h;cases h;rfl
 | inr l=>
  rw[hr] at h
  simp only at h ⊢
  cases ha:M.Zbf l 0 qQ with
  | inl g=>rw[ha] at h;cases h;rfl
  | inr all=>rw[ha] at h;cases h
theorem Zpx{qQ qZ:List M.Pk}{T:List (List UInt8)}(h:Zgq qQ T=.inr qZ):M.Zar qQ T=M.Zcc qQ qZ (qQ++qZ):=by
 obtain⟨h1,h2⟩:=Zrj h
 unfold M.Zar
 rw[h1]
 simp only[h2]
theorem Zs5{qQ qZ all:List M.Pk}{f:M.Fa}(h:Zgs all=some f):M.Zcc qQ qZ all=.inl f:=by
 unfold Zgs at h
 unfold M.Zcc
 by_cases h1:M.Za2 all≠[]
 ·rw[if_pos h1] at h ⊢;cases h;rfl
 ·rw[if_neg h1] at h ⊢
  by_cases h2:M.Zbg all≠[]
  ·rw[if_pos h2] at h ⊢;cases h;rfl
  ·rw[if_neg h2] at h ⊢
   by_cases h3:M.Za4 all≠[]
   ·rw[if_pos h3] at h ⊢;cases h;rfl
   ·rw[if_neg h3] at h;cases h
theorem Zsl{qQ qZ all:List M.Pk}(h:Zgs all=none):M.Zcc qQ qZ all=match Zix qQ qZ with | .inl f=>.inl f | .inr l=>.inr (all,l):=by
 unfold Zgs at h
 unfold M.Zcc Zix
 by_cases h1:M.Za2 all≠[]
 ·rw[if_pos h1] at h;cases h
 ·rw[if_neg h1] at h ⊢
  by_cases h2:M.Zbg all≠[]
  ·rw[if_pos h2] at h;cases h
  ·rw[if_neg h2] at h ⊢
   by_cases h3:M.Za4 all≠[]
   ·rw[if_pos h3] at h;cases h
   ·rw[if_neg h3]
    by_cases h4:M.Zfe (M.Zb2 qQ qZ.length qZ []).2≠[]
    ·rw[if_pos h4,if_pos h4]
    ·rw[if_neg h4,if_neg h4]
theorem Zzp(b:Nat)(qQ:List M.Pk)(xv:Value)(qX:List ByteArray)(w:World)(hM:Zby w)(hE:Zdw w)(hl:Zaw w b qQ)(hx:Zdh w xv qX)(hxn:qX.length<=10000)(hxs:∀ t∈qX,t.size<=8192)(htn:qQ.length<=20000)(hts:∀ p∈qQ,Zbb p):
 Calls Tryz.prog 82 #[.map (some b),xv] w (Z84 qQ (M.Zar qQ (qX.map fun t=>t.data.toList)) w):=by
 have cA:=Zr1 b qQ xv qX w hM hE hl hx hxn hxs
 have hTl:(qX.map fun t=>t.data.toList).length<=10000:=by rw[List.length_map];exact hxn
 generalize (qX.map fun t=>t.data.toList)=T at cA hTl ⊢
 obtain⟨ax,cx,ex⟩:=hx.form
 subst ex
 have HL:=hid hl
 have HTs:=hid hts
 clear hM hE hl hx hxs hts
 go_enter Tryz.func82,Tryz.ntmps82
 go_wp2_with fail
 refine cA.mono ?_
 rintro e w2 ⟨hB2,hm⟩
 clear cA
 cases hr:Zgq qQ T with
 | inl f=>
  rw[hr] at hm
  obtain⟨ev,rfl,fb,rfl,hF⟩:=hm
  have HP:Hid (M.Zar qQ T=.inl f):=Zqe hr
  have HF:Hid (Zgd f w2 (.iface 91 (.pointer (some ⟨fb,0,none⟩)))):=⟨fb,rfl,hF⟩
  clear hr hF
  go_wp2
  refine bodyPost_ret (v:=.tuple #[.map none,.slice none 0 0,.iface 91 (.pointer (some ⟨fb,0,none⟩))]) (by simp[results,Tryz.results82,go_sem]) rfl ⟨hB2,?_⟩
  rw[HP.out]
  exact⟨_,rfl,HF.out⟩
 | inr qZ=>
  rw[hr] at hm
  obtain⟨nb,rfl,hS⟩:=hm
  obtain⟨k1,k2⟩:=Zrj hr
  obtain⟨k3,k4⟩:=Zzx k1
  have HS:=hid hS
  have HK4:=hid k4
  have HAp:Hid (M.Apart (qQ++qZ)):=M.Zii _ _ _ _ k2 HL.out.apart
  have HC:Hid (M.Zar qQ T=M.Zcc qQ qZ (qQ++qZ)):=Zpx hr
  have hlen:(qQ++qZ).length<=30000:=by rw[List.length_append];omega
  have cW:=Zy7 b nb qQ qZ w2 (HL.out.below hB2) hS HAp.out (by omega)
  have hfl:qZ.length<=10000:=by omega
  clear hr hS k1 k2 k3 k4
  go_wp2_with (go_at_call 134;refine cW.mono ?_;rintro e w3 ⟨b3,rfl,hS3,hB3⟩)
  have cK:=Z40 b3 (qQ++qZ) w3 hS3 (by omega) (fun p hp=>(List.mem_append.1 hp).elim (HTs.out p) (HK4.out p))
  refine cK.mono ?_
  rintro e w4 ⟨hB4,hm⟩
  have HB4:Hid (Below w2.heap.size w2 w4):=bt hB3 hB4
  clear cW cK hS3 hB3 hB4
  cases hc:Zgs (qQ++qZ) with
  | some f=>
   rw[hc] at hm
   obtain⟨ev,rfl,fb,rfl,hF⟩:=hm
   have HP:Hid (M.Zar qQ T=.inl f):=by show _ = _;rw[HC.out];exact Zs5 hc
   have HF:Hid (Zgd f w4 (.iface 91 (.pointer (some ⟨fb,0,none⟩)))):=⟨fb,rfl,hF⟩
   clear hc hF
   go_wp2
   refine bodyPost_ret (v:=.tuple #[.map none,.slice none 0 0,.iface 91 (.pointer (some ⟨fb,0,none⟩))]) (by simp[results,Tryz.results82,go_sem]) rfl ⟨bt hB2 HB4.out,?_⟩
   rw[HP.out]
   exact⟨_,rfl,HF.out⟩
  | none=>
   rw[hc] at hm
   subst hm
   have cO:=Z0x b nb qQ qZ w4 ((HL.out.below hB2).below HB4.out) (HS.out.below HB4.out) hfl HTs.out HK4.out
   have HO:Hid (M.Zar qQ T=match Zix qQ qZ with | .inl f=>.inl f | .inr l=>.inr (qQ++qZ,l)):=by show _ = _;rw[HC.out];exact Zsl hc
   clear hc
   go_wp2_with fail
   refine cO.mono ?_
   rintro e w5 ⟨hB5,hm⟩
   have HB:Hid (Below w.heap.size w w5):=bt (bt hB2 HB4.out) hB5
   have HS5:Hid (Zaw w5 nb qZ):=(HS.out.below HB4.out).below hB5
   have hbase:w.heap.size<=w4.heap.size:=Nat.le_trans hB2.size HB4.out.size
   clear cO
   cases ho:Zix qQ qZ with
   | inl f=>
    rw[ho] at hm
    obtain⟨ev,rfl,fb,rfl,hF⟩:=hm
    have HP:Hid (M.Zar qQ T=.inl f):=by show _ = _;rw[HO.out,ho]
    have HF:Hid (Zgd f w5 (.iface 91 (.pointer (some ⟨fb,0,none⟩)))):=⟨fb,rfl,hF⟩
    clear ho hF
    go_wp2
    refine bodyPost_ret (v:=.tuple #[.map none,.slice none 0 0,.iface 91 (.pointer (some ⟨fb,0,none⟩))]) (by simp[results,Tryz.results82,go_sem]) rfl ⟨HB.out,?_⟩
    rw[HP.out]
    exact⟨_,rfl,HF.out⟩
   | inr l=>
    rw[ho] at hm
    obtain⟨v,rfl,hv⟩:=hm
    have HP:Hid (M.Zar qQ T=.inr (qQ++qZ,l)):=by show _ = _;rw[HO.out,ho]
    have HV:Hid (w5.ownsRow w.heap.size 9 1 v l.length (Zaa l)):=ownsRow_base_a hv hbase
    obtain⟨av,cv,ev⟩:=Zac hv
    subst ev
    clear ho hv
    go_wp2
    refine bodyPost_ret (v:=.tuple #[.map (some nb),.slice av l.length cv,.nilIface]) (by simp[results,Tryz.results82,go_sem]) rfl ⟨HB.out,?_⟩
    rw[HP.out]
    exact⟨_,_,qZ,rfl,HS5.out,rfl,HAp.out,HK4.out,HV.out⟩
def Zwg(R:Sum M.Fa (List M.Pk × List (List UInt8)))(w:World)(e:Ending)(w':World):Prop:=
 Below w.heap.size w w'/\match R with
  | .inl f=>∃ ev,e=.returned (.tuple #[.slice none 0 0,ev])/\Zgd f w' ev
  | .inr (_,qG)=>∃ v,e=.returned (.tuple #[v,.nilIface])/\w'.ownsRow w.heap.size 9 1 v qG.length (Zaa qG)
theorem Z5b(b:Nat)(qQ:List M.Pk)(xv:Value)(qX:List ByteArray)(w:World)(hM:Zby w)(hE:Zdw w)(hl:Zaw w b qQ)(hx:Zdh w xv qX)(hxn:qX.length<=10000)(hxs:∀ t∈qX,t.size<=8192)(htn:qQ.length<=20000)(hts:∀ p∈qQ,Zbb p):
 Calls Tryz.prog 38 #[.map (some b),xv] w (Zwg (M.Zar qQ (qX.map fun t=>t.data.toList)) w):=by
 have cA:=Zzp b qQ xv qX w hM hE hl hx hxn hxs htn hts
 generalize M.Zar qQ (qX.map fun t=>t.data.toList)=R at cA ⊢
 clear hM hE hl hx hxs hts
 go_enter Tryz.func38,Tryz.ntmps38
 go_wp2_with fail
 refine cA.mono ?_
 rintro e w2 ⟨hB2,hm⟩
 clear cA
 cases R with
 | inl f=>
  obtain⟨ev,rfl,fb,rfl,hF⟩:=hm
  have HF:Hid (Zgd f w2 (.iface 91 (.pointer (some ⟨fb,0,none⟩)))):=⟨fb,rfl,hF⟩
  clear hF
  go_wp2
  refine bodyPost_ret (v:=.tuple #[.slice none 0 0,.iface 91 (.pointer (some ⟨fb,0,none⟩))]) (by simp[results,Tryz.results38,go_sem]) rfl ⟨hB2,?_⟩
  exact⟨_,rfl,HF.out⟩
 | inr q=>
  obtain⟨all,l⟩:=q
  obtain⟨nb,v,qZ,rfl,_,_,_,_,hv⟩:=hm
  have HV:=hid hv
  obtain⟨av,cv,ev⟩:=Zac hv
  subst ev
  clear hv
  go_wp2
  refine bodyPost_ret (v:=.tuple #[.slice av l.length cv,.nilIface]) (by simp[results,Tryz.results38,go_sem]) rfl ⟨hB2,?_⟩
  exact⟨_,rfl,HV.out⟩
theorem Zxz{qQ all:List M.Pk}{T qG:List (List UInt8)}(h:M.Zar qQ T=.inr (all,qG)):all.length=qQ.length+T.length:=by
 unfold M.Zar at h
 cases hr:M.Zav T 0 [] with
 | inl f=>rw[hr] at h;cases h
 | inr qZ=>
  rw[hr] at h
  simp only at h
  cases ha:M.Zbf qZ 0 qQ with
  | inl f=>rw[ha] at h;cases h
  | inr al=>
   rw[ha] at h
   simp only at h
   have e:=M.Zi9 _ _ _ _ ha
   have hl:=M.Zge _ _ _ _ hr
   have:all=al:=by
    unfold M.Zcc at h
    split at h
    ·cases h
    ·split at h
     ·cases h
     ·split at h
      ·cases h
      ·split at h
       ·cases h
       ·cases h;rfl
   rw[this,e,List.length_append]
   simp at hl
   omega
theorem Zw9(b:Nat)(room:Nat)(qQ:List M.Pk)(xv:Value)(qX:List ByteArray)(w:World)(hR:Ready w)(hl:Zaw w b qQ)(hx:Zdh w xv qX)(hxn:qX.length<=10000)(hxs:∀ t∈qX,t.size<=8192)(htn:qQ.length<=20000)(hts:∀ p∈qQ,Zbb p):
 Calls Tryz.prog 83 #[.map (some b),xv,.int .i64 room] w (Zpu (M.Zap qQ (qX.map fun t=>t.data.toList) room) w):=by
 have cP:=Zzp b qQ xv qX w hR.2 hR.1 hl hx hxn hxs htn hts
 have HTl:Hid ((qX.map fun t=>t.data.toList).length<=10000):=by show _<=_;rw[List.length_map];exact hxn
 obtain⟨ax,cx,ex⟩:=hx.form
 subst ex
 generalize (qX.map fun t=>t.data.toList)=T at cP HTl ⊢
 have HL:=hid hl
 have HTs:=hid hts
 clear hR hl hx hxs hts
 go_enter Tryz.func83,Tryz.ntmps83
 go_wp2_with fail
 refine cP.mono ?_
 rintro e w2 ⟨hB2,hm⟩
 clear cP
 cases hp:M.Zar qQ T with
 | inl f=>
  rw[hp] at hm
  obtain⟨ev,rfl,fb,rfl,hF⟩:=hm
  have HP:Hid (M.Zap qQ T room=.inl f):=by show _ = _;unfold M.Zap;rw[hp]
  have HF:Hid (Zgd f w2 (.iface 91 (.pointer (some ⟨fb,0,none⟩)))):=⟨fb,rfl,hF⟩
  clear hp hF
  go_wp2
  refine bodyPost_ret (v:=.tuple #[.map none,.iface 91 (.pointer (some ⟨fb,0,none⟩))]) (by simp[results,Tryz.results83,go_sem]) rfl ⟨hB2,?_⟩
  rw[HP.out]
  exact⟨_,rfl,HF.out⟩
 | inr q=>
  obtain⟨all,qG⟩:=q
  rw[hp] at hm
  obtain⟨nb,v,qZ,rfl,hS,rfl,hAp,hfr,hv⟩:=hm
  have hln:=Zxz hp
  obtain⟨av,cv,ev⟩:=Zac hv
  subst ev
  have hlen:(qQ++qZ).length<=30000:=by have:=HTl.out;omega
  have hRd:∀ p∈qQ++qZ,Zbb p:=fun p hp=>(List.mem_append.1 hp).elim (HTs.out p) (hfr p)
  have hsz:=size_le hRd
  have HI:Hid (M.Zap qQ T room=if (room:Int)<M.Zbn (qQ++qZ) then .inl ⟨8,0,0,[]⟩ else .inr (qQ++qZ)):=by show _ = _;unfold M.Zap;rw[hp]
  have cW:=Zy7 b nb qQ qZ w2 (HL.out.below hB2) hS hAp (by rw[<-List.length_append];omega)
  have HRd:=hid hRd
  have hszb:M.Zbn (qQ++qZ)<=9000000:=by omega
  clear hp hln hv hS hAp hfr hRd hsz hlen
  go_wp2_with (go_at_call 134;refine cW.mono ?_;rintro e w3 ⟨ab,rfl,hS3,hB3⟩)
  have cS:=Zvr ab (qQ++qZ) w3 hS3 HRd.out (by omega)
  have HS3:=hid hS3
  generalize hZ:M.Zbn (qQ++qZ)=Z at cS HI hszb
  clear hS3 cW hZ
  refine cS.mono ?_
  rintro e w4 ⟨rfl,hB4⟩
  have HB:Hid (Below w.heap.size w w4/\Zaw w4 ab (qQ++qZ)):=⟨bt (bt hB2 hB3) hB4,HS3.out.below hB4⟩
  clear cS hB2 hB3 hB4
  by_cases hlt:room<Z
  ·have HE:Hid (M.Zap qQ T room=.inl ⟨8,0,0,[]⟩):=by show _ = _;rw[HI.out,if_pos (by omega)]
   go_wp2
   have hB5:Below w4.heap.size w4 (w4.alloc (.cells #[.int .i64 8,.int .i64 0,.int .i64 0,.string ⟨#[]⟩] 96)):=(Below.refl _ w4).alloc ler _
   refine bodyPost_ret (v:=.tuple #[.map none,.iface 91 (.pointer (some ⟨w4.heap.size,0,none⟩))]) (by simp[results,Tryz.results83,go_sem]) rfl ⟨bt HB.out.1 hB5,?_⟩
   rw[HE.out]
   exact⟨_,rfl,w4.heap.size,rfl,Zff 8 0 0 ⟨#[]⟩ _⟩
  ·have HE:Hid (M.Zap qQ T room=.inr (qQ++qZ)):=by show _ = _;rw[HI.out,if_neg (by omega)]
   go_wp2
   refine bodyPost_ret (v:=.tuple #[.map (some ab),.nilIface]) (by simp[results,Tryz.results83,go_sem]) rfl ⟨HB.out.1,?_⟩
   rw[HE.out]
   exact⟨ab,rfl,HB.out.2⟩
theorem Z01(b:Nat)(L:List KV)(w:World)(h:Zaj Tryz.prog 9 w b L):
 Calls Tryz.prog 139 #[.map (some b)] w fun e w'=>e=.returned (.map (some w.heap.size))/\Zaj Tryz.prog 9 w' w.heap.size L/\Below w.heap.size w w':=by
 obtain⟨n,es,⟨xs,clock,h0,h1⟩,h2⟩:=h
 have hq:=fun w=>run_eql_map_nil_sl (P:=Tryz.prog) w 108 _ _ (some b) Zem
 have hS:Zaj Tryz.prog 9 (w.alloc (.map xs clock)) w.heap.size L:=⟨n,es,⟨xs,clock,heap_alloc_new w _,h1⟩,h2⟩
 have HS:=hid hS
 clear hS h1 h2
 go_enter Tryz.func139,Tryz.ntmps139
 go_wp2
 rw[run_callFunc_extern Tryz.func191 (by kernel_rfl) (by kernel_rfl) (by kernel_rfl) (e:=Extern.MapsClone.clone) (by kernel_rfl),run_maps_clone_sl w 108 h0]
 simp only[Result.andThen]
 rw[Oper.upon_value]
 go_wp2
 rw[run_typeAssert_map_sl _ 108 20 _ _ _ Zem]
 simp only[Result.andThen]
 rw[Oper.upon_value]
 go_wp2
 go_ret
 exact⟨rfl,HS.out,(Below.refl _ w).alloc ler _⟩
namespace M
theorem Zpb{n:List UInt8}:∀ {all:List Pk} {k:Nat},Apart all->all.findIdx? (fun p=>p.name == n)=some k->all.take k++all.drop (k+1)=all.filter (fun p=>p.name != n)
 | [],k,_,h=>by simp at h
 | p :: l,k,ha,h=>by
  have hap:=List.nodup_cons.1 (show (p.name :: l.map Pk.name).Nodup from ha)
  rw[List.findIdx?_cons] at h
  by_cases hp:p.name=n
  ·rw[if_pos (by simpa using hp)] at h
   cases h
   rw[List.take_zero,List.nil_append,List.drop_succ_cons,List.drop_zero,List.filter_cons_of_neg (by simp[hp]),List.filter_eq_self.2]
   intro q hq
   simp only[bne_iff_ne,ne_eq]
   exact fun e=>hap.1 (by rw[hp,<-e];exact List.mem_map.2 ⟨q,hq,rfl⟩)
  ·rw[if_neg (by simpa using hp)] at h
   obtain⟨j,hj,rfl⟩:=Option.map_eq_some_iff.1 h
   rw[List.take_succ_cons,List.drop_succ_cons,List.cons_append,Zpb hap.2 hj,List.filter_cons_of_pos (by simpa using hp)]
end M
theorem Z87(l:List M.Pk)(f:M.Pk->Value)(n:List UInt8):Z6e (l.map fun p=>(p.name,f p)) n=(l.filter (fun p=>p.name != n)).map fun p=>(p.name,f p):=by
 unfold Z6e
 rw[List.filter_map]
 rfl
theorem Z6y{l:List M.Pk}{f:M.Pk->Value}{n:List UInt8}(h:Zcg (l.map fun p=>(p.name,f p)) n=none):l.findIdx? (fun p=>p.name == n)=none:=by
 rw[List.findIdx?_eq_none_iff]
 intro p hp
 have:=Zls.1 h _ (List.mem_map.2 ⟨p,hp,rfl⟩)
 simpa using this
theorem Z3h{l:List M.Pk}{f:M.Pk->Value}{n:List UInt8}{v:Value}(h:Zcg (l.map fun p=>(p.name,f p)) n=some v):∃ k,l.findIdx? (fun p=>p.name == n)=some k:=by
 cases hf:l.findIdx? (fun p=>p.name == n) with
 | some k=>exact⟨k,rfl⟩
 | none=>
  have:Zcg (l.map fun p=>(p.name,f p)) n=none:=Zls.2 (fun q hq=>by
   obtain⟨p,hp,rfl⟩:=List.mem_map.1 hq
   have:=List.findIdx?_eq_none_iff.1 hf p hp
   simpa using this)
  rw[this] at h
  cases h
end Go.Proofs.YtgnfknjopafngabGreatDoor
