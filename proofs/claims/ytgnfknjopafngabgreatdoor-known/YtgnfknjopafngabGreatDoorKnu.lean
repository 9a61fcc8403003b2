import Derived.Maps.OwnIn
import Derived.Laws.EntriesVeiled
import Derived.Test.YtgnfknjopafngabGreatDoorKnt
import Derived.Shelf.Strings.BuilderX
import Derived.Shelf.Strings.Builder1
import Derived.Shelf.Strings.Builder2
set_option maxRecDepth 100000
set_option maxHeartbeats 8000000
namespace Go.Proofs.YtgnfknjopafngabGreatDoor
open Go.RowKit Go.Maps Go.Shelf
attribute [local go_sem] Oper.semAt_some
theorem packs_any(s:Nat)(w:World):
 Calls Tryz.prog 43 #[.pointer (some ⟨s,0,none⟩)] w fun e w'=>e=.returned (.func (.func 89) #[] #[.pointer (some ⟨w.heap.size,0,none⟩)])/\w'=w.alloc (.cells #[.pointer (some ⟨s,0,none⟩)] 59):=by
 go_enter Tryz.func43,Tryz.ntmps43
 go_wp2
 go_ret
 exact⟨rfl,rfl⟩
theorem packs_on(sb s k b n:Nat)(l:List M.Pk)(w0:World)(hs:StoreAt w0 s k b)(hl:SetIn w0 b l)(hn:l.length<=1000000)(hr:∀ p∈l,ReadP p)(h2:2<=n):
 SeqOn Fence.wide n Tryz.prog 89 #[] #[.pointer (some ⟨sb,0,none⟩)] l.length (fun k=>#[.string (nmAt l k),.string (txAt l k)]) w0 (fun W=>W.cell? ⟨sb,0,none⟩=some (.pointer (some ⟨s,0,none⟩))):=by
 intro lp J W c hsb hB0 hJa hJc hY hJ0
 have h1:1<=n:=by omega
 have hsl:s<w0.heap.size:=(ges.1 hs).1
 have q1:W.cell? ⟨s,1,none⟩=some (.map (some b)):=(hB0.cell (p:=⟨s,1,none⟩) hsl).trans ((cell_of_row w0 _ 1 _ _ (0,0) hs).trans rfl)
 have cE:=each_on b (n-1) l w0 hl hn hr (by omega) lp J W c trivial hB0 hJa hJc (fun k c W1 hk hJ=>yield_any (hY k c W1 hk hJ)) hJ0
 simp only[List.append_toArray,List.nil_append,List.cons_append,List.append_nil] at cE
 clear hs hl hr hJa hJc hY hJ0
 simp only[List.append_toArray,List.nil_append,List.cons_append]
 refine callsIn_of_wp Tryz.func89 rfl trivial ?_ rfl
 simp only[Tryz.ntmps89,List.size_toArray,List.length_cons,List.length_nil,Nat.reduceAdd,Nat.reduceSub,Array.replicate_succ,Array.replicate_zero,List.push_toArray,List.append_toArray,List.nil_append,List.cons_append]
 gi_wp2_with (refine⟨trivial,?_⟩;gi_at_call 90;refine cE.mono ?_;rintro e w1 ⟨⟨v,rfl⟩,hJ1⟩)
 go_end0
 exact⟨⟨_,rfl⟩,hJ1⟩
structure AskAt (W:World) (bo bn bk bl:Nat) (lv:Value) (no:Bool) (k:Nat):Prop where
 ok:Boxed W bo 4 (.bool true)
 no:Boxed W bn 4 (.bool no)
 k:Boxed W bk 3 (.int .i64 k)
 l:Boxed W bl 41 lv
theorem ask_any(bo bn bk bl g cap m k:Nat)(N T:ByteArray)(W:World)(h:AskAt W bo bn bk bl (.slice (some ⟨g,0,none⟩) m cap) false k)(hT:W.cell? ⟨g,k,none⟩=some (.string T))(hk:k<m)(hm:m<=1000000)(h1:bn≠bo)(h2:bk≠bo)(h3:bk≠bn)(h4:bl≠bo)(h5:bl≠bk)(h6:bl≠bn):
 Calls Tryz.prog 44 #[.string N,.string T,.pointer (some ⟨bo,0,none⟩),.pointer (some ⟨bn,0,none⟩),.pointer (some ⟨bk,0,none⟩),.pointer (some ⟨bl,0,none⟩)] W fun e W'=>e=.returned (.bool (decide (k+1<=m / 2)))/\AskAt W' bo bn bk bl (.slice (some ⟨g,0,none⟩) m cap) (decide (m / 2<k+1)) (k+1)/\Chg (fun j=>j=bo\/j=bk\/j=bn) W W':=by
 have q1:=h.ok.cell
 have q2:=h.no.cell
 have q3:=h.k.cell
 have q4:=h.l.cell
 have f1:=h.ok.frozen
 have f2:=h.no.frozen
 have f3:=h.k.frozen
 have HA:=hid h
 clear h
 go_enter Tryz.func44,Tryz.ntmps44
 go_wp2
 go_ret
 have e1:decide ((m:Int) / 2<(k:Int)+1)=decide (m / 2<k+1):=by rw[decide_eq_decide];omega
 have e2:(!decide (m / 2<k+1))=decide (k+1<=m / 2):=by rw[Bool.eq_iff_iff];simp
 rw[e1,show ((k:Int)+1)=((k+1:Nat):Int) by omega]
 have kp:∀ {X:World} {B b:Nat} {t:TypeId} {v u:Value},Boxed X B t v->B≠b->Boxed (X.setCell ⟨b,0,none⟩ u) B t v:=fun h hn=>h.kept (grownBy_setCell' _ _ _) (fun e=>hn (Option.some.inj e))
 refine⟨by rw[<-e2];rfl,⟨kp (kp (HA.out.ok.set _) h2.symm) h1.symm,(kp (kp HA.out.no h1) h3.symm).set _,kp ((kp HA.out.k h2).set _) h3,kp (kp (kp HA.out.l h4) h5) h6⟩,?_⟩
 exact((Chg.grown (setCell_grown _ _ _ _) (fun j e _=>.inl (Option.some.inj e).symm)).then (Chg.grown (F:=fun j=>j=bk) (setCell_grown _ _ _ _) (fun j e _=>(Option.some.inj e).symm)) (fun j _ e=>.inr (.inl e))).then (Chg.grown (F:=fun j=>j=bn) (setCell_grown _ _ _ _) (fun j e _=>(Option.some.inj e).symm)) (fun j _ e=>.inr (.inr e))
theorem each_ask(b bo bn bk bl g cap:Nat)(lv:Value)(l:List M.Pk)(w0 w:World)(hl:SetIn w0 b l)(hb0:Below w0.heap.size w0 w)(hn:l.length<=1000000)(hs:∀ p∈l,ReadP p)(h1:bn≠bo)(h2:bk≠bo)(h3:bk≠bn)(h4:bl≠bo)(h5:bl≠bk)(h6:bl≠bn)
 (hlo:w0.heap.size<=bo/\w0.heap.size<=bk/\w0.heap.size<=bn) (hA:AskAt w bo bn bk bl lv false 0) (hlv:0<l.length->lv=.slice (some ⟨g,0,none⟩) l.length cap) (hg:0<l.length->g≠bo/\g≠bk/\g≠bn) (hrow:∀ k,k<l.length->w.cell? ⟨g,k,none⟩=some (.string (txAt l k))):
 Calls Tryz.prog 90 #[.map (some b),.func (.func 44) #[] #[.pointer (some ⟨bo,0,none⟩),.pointer (some ⟨bn,0,none⟩),.pointer (some ⟨bk,0,none⟩),.pointer (some ⟨bl,0,none⟩)]] w fun e W'=>(∃ v,e=.returned v)/\Boxed W' bo 4 (.bool true)/\Chg (fun j=>j=bo\/j=bk\/j=bn) w W':=by
 have hbo:=hA.ok.lt
 have hbn:=hA.no.lt
 have hbk:=hA.k.lt
 have cN:=names_any b l w (hl.below hb0) hn
 have HL:=hid hl
 have HS:=hid hs
 have HAp:=hid hl.apart
 have HK:=hid hA
 have HR0:=hid hrow
 generalize hr:nmCells (M.sortN (l.map M.Pk.name))=r at cN
 have HR:=hid hr
 clear hl hs hA hr hrow
 go_enter Tryz.func90,Tryz.ntmps90
 go_wp2_with (go_at_call 141;refine cN.mono ?_;rintro e w1 ⟨v,rfl,hrow,hB1⟩;obtain⟨a1,c1,e1⟩:=own_form hrow;subst e1;have HRow:Hid (w1.ownsRow w.heap.size 9 1 (.slice a1 l.length c1) l.length r):=hrow;clear hrow cN)
 have HK1:Hid (AskAt w1 bo bn bk bl lv false 0):=⟨(hB1.block _ hbo).trans HK.out.ok,(hB1.block _ hbn).trans HK.out.no,(hB1.block _ hbk).trans HK.out.k,(hB1.block _ HK.out.l.lt).trans HK.out.l⟩
 go_loopw [5,9] (fun _ i wr=>∃ k:Nat,i=.int .i64 k/\k<=l.length/\Hid (AskAt wr bo bn bk bl lv false k)/\Hid (wr.ownsRow w.heap.size 9 1 (.slice a1 l.length c1) l.length r)/\Hid (Chg (fun j=>j=bo\/j=bk\/j=bn) w wr)) (fun _ i _=>l.length-(intOf i).toNat)
 case atStart=>exact⟨0,rfl,Nat.zero_le _,HK1,HRow,Chg.below hB1⟩
 case round=>
  obtain⟨k,rfl,hk,HKr,HRw,HC⟩:=hrel
  have hBr:Below w0.heap.size w0 wr:=Below.chg hb0 HC.out (fun j hj=>by rcases hj with rfl|rfl|rfl <;> omega) ler
  by_cases hlt:k<l.length
  ·obtain⟨p,hp,hnm,eN,eT⟩:=at_names HAp.out hlt
   obtain⟨gg,e1,hgg,hcapn,hc⟩:=((RowIn.own HRw.out).wide (Nat.zero_le _) ler).cellAt (by omega)
   subst e1
   have c0:wr.cell? ⟨gg,k,none⟩=some (.string (nmAt l k)):=hc k _ (by rw[<-HR.out];unfold nmCells;rw[List.getElem?_map,hnm,eN];rfl)
   have hYd:(nmAt l k).data.toList=p.name:=by rw[eN]
   have hYs:(nmAt l k).size<=maxLen:=by have:=(HS.out p hp).short.name;rw[size_of hYd];unfold maxLen;omega
   obtain⟨f,hm,hv⟩:=HL.out.below hBr
   have hr1:(Instr.lookup 108 (.map (some b)) (.string (nmAt l k)) false).run Tryz.prog wr=.ok (f p) wr:=by
    rw[hm.look Tryz.underlying9 setMap (zeroPk_run wr) hYs,hYd,(look_mem hm.keys).2 (List.mem_map.2 ⟨p,hp,rfl⟩),Option.getD_some]
   have cO:Calls Tryz.prog 34 #[f p] wr (fun e w'=>e=.returned (.string (txAt l k))/\Below wr.heap.size wr w'):=(oneForm_any p (f p) wr (hv p hp) (HS.out p hp).short).mono (fun e w' ⟨T,e1,e2,e3⟩=>⟨by rw[e1,eT,<-e2],e3⟩)
   have cA:∀ wx,Below wr.heap.size wr wx->Calls Tryz.prog 44 #[.string (nmAt l k),.string (txAt l k),.pointer (some ⟨bo,0,none⟩),.pointer (some ⟨bn,0,none⟩),.pointer (some ⟨bk,0,none⟩),.pointer (some ⟨bl,0,none⟩)] wx fun e W'=>e=.returned (.bool (decide (k+1<=l.length / 2)))/\AskAt W' bo bn bk bl lv (decide (l.length / 2<k+1)) (k+1)/\Chg (fun j=>j=bo\/j=bk\/j=bn) wx W':=fun wx hb=>by
    have hK:=HKr.out
    rw[hlv (by omega)] at hK ⊢
    refine ask_any bo bn bk bl g cap l.length k _ _ wx ⟨(hb.block _ hK.ok.lt).trans hK.ok,(hb.block _ hK.no.lt).trans hK.no,(hb.block _ hK.k.lt).trans hK.k,(hb.block _ hK.l.lt).trans hK.l⟩ ?_ hlt hn h1 h2 h3 h4 h5 h6
    have hcw:=HC.out.cell (HR0.out k hlt) (fun e=>by rcases e with e|e|e;exact(hg (by omega)).1 e;exact(hg (by omega)).2.1 e;exact(hg (by omega)).2.2 e)
    exact(hb.cell (p:=⟨g,k,none⟩) (World.block_lt_of_cell? _ _ hcw)).trans hcw
   generalize f p=fv at hr1 cO
   clear hm hv hYd hc hnm eN eT
   have HCx:Hid (∀ wx w4,Below wr.heap.size wr wx->Chg (fun j=>j=bo\/j=bk\/j=bn) wx w4->Chg (fun j=>j=bo\/j=bk\/j=bn) w w4/\w4.ownsRow w.heap.size 9 1 (.slice (some ⟨gg,0,none⟩) l.length c1) l.length r):=fun wx w4 hb hc4=>by
    refine⟨(HC.out.then (Chg.below (F:=fun _=>False) hb) (fun _ _ e=>e.elim)).then hc4 (fun _ _ e=>e),hc4.own (Chg.own (F:=fun _=>False) (Chg.below hb) HRw.out (fun _ _ h=>h)) (fun j hj e=>?_)⟩
    have:=(HRw.out.lt j hj).1
    rcases e with rfl|rfl|rfl <;> omega
   by_cases hh:k+1<=l.length / 2
   ·rw[decide_eq_true hh,decide_eq_false (by omega:¬ l.length / 2<k+1)] at cA
    clear hh
    go_wp2_with (first
     | (go_at_call 34;refine cO.mono ?_;rintro e w3 ⟨rfl,hB3⟩)
     | (go_at_call 44;refine(cA w3 hB3).mono ?_;rintro e w4 ⟨rfl,hA4,hC4⟩;have HA4:Hid (AskAt w4 bo bn bk bl lv false (k+1)):=hA4;have HC4:Hid (Chg (fun j=>j=bo\/j=bk\/j=bn) w3 w4):=hC4;clear hA4 hC4))
    go_roundw
    case rel=>exact⟨k+1,by go_num,by omega,HA4,(HCx.out w3 w4 hB3 HC4.out).2,(HCx.out w3 w4 hB3 HC4.out).1⟩
    case measure=>simp[intOf];omega
   ·rw[decide_eq_false hh] at cA
    clear hh
    go_wp2_with (first
     | (go_at_call 34;refine cO.mono ?_;rintro e w3 ⟨rfl,hB3⟩)
     | (go_at_call 44;refine(cA w3 hB3).mono ?_;rintro e w4 ⟨rfl,hA4,hC4⟩;have HA4:Hid (Boxed w4 bo 4 (.bool true)):=hA4.ok;have HC4:Hid (Chg (fun j=>j=bo\/j=bk\/j=bn) w3 w4):=hC4;clear hA4 hC4))
    refine bodyPost_ret (results_none rfl _ _ _) rfl ?_
    exact⟨⟨_,rfl⟩,HA4.out,(HCx.out w3 w4 hB3 HC4.out).1⟩
  ·have HE:Hid (k=l.length):=by show _ = _;omega
   go_wp2
   go_end0
   exact⟨⟨_,rfl⟩,HKr.out.ok,HC.out⟩
theorem packs_ask(sb s k b bo bn bk bl g cap:Nat)(lv:Value)(l:List M.Pk)(w0 w:World)(hst:StoreAt w0 s k b)(hsb:w.cell? ⟨sb,0,none⟩=some (.pointer (some ⟨s,0,none⟩)))(hl:SetIn w0 b l)(hb0:Below w0.heap.size w0 w)(hn:l.length<=1000000)(hs:∀ p∈l,ReadP p)(h1:bn≠bo)(h2:bk≠bo)(h3:bk≠bn)(h4:bl≠bo)(h5:bl≠bk)(h6:bl≠bn)
 (hlo:w0.heap.size<=bo/\w0.heap.size<=bk/\w0.heap.size<=bn) (hA:AskAt w bo bn bk bl lv false 0) (hlv:0<l.length->lv=.slice (some ⟨g,0,none⟩) l.length cap) (hg:0<l.length->g≠bo/\g≠bk/\g≠bn) (hrow:∀ k,k<l.length->w.cell? ⟨g,k,none⟩=some (.string (txAt l k))):
 Calls Tryz.prog 89 #[.func (.func 44) #[] #[.pointer (some ⟨bo,0,none⟩),.pointer (some ⟨bn,0,none⟩),.pointer (some ⟨bk,0,none⟩),.pointer (some ⟨bl,0,none⟩)],.pointer (some ⟨sb,0,none⟩)] w fun e W'=>(∃ v,e=.returned v)/\Boxed W' bo 4 (.bool true)/\Chg (fun j=>j=bo\/j=bk\/j=bn) w W':=by
 have hsl:s<w0.heap.size:=(ges.1 hst).1
 have q1:w.cell? ⟨s,1,none⟩=some (.map (some b)):=(hb0.cell (p:=⟨s,1,none⟩) hsl).trans ((cell_of_row w0 _ 1 _ _ (0,0) hst).trans rfl)
 have cE:=each_ask b bo bn bk bl g cap lv l w0 w hl hb0 hn hs h1 h2 h3 h4 h5 h6 hlo hA hlv hg hrow
 clear hst hl hs hA hrow hb0
 go_enter Tryz.func89,Tryz.ntmps89
 go_wp2_with fail
 refine cE.mono ?_
 rintro e w1 ⟨⟨v,rfl⟩,hJ1⟩
 go_wp2
 go_end0
 exact⟨⟨_,rfl⟩,hJ1⟩
theorem late_at{w:World}{base:Nat}{v:Value}{l:List (Nat × List UInt8)}(h:LateIn w base v l){n:Nat}(hn:n<l.length):
 ∃ b c g cg,v=.slice (some ⟨b,0,none⟩) l.length c/\b<w.heap.size/\l.length<=c/\c<=maxLen/\w.cell? ⟨b,n*2,none⟩=some (.int .i64 l[n].1)/\w.cell? ⟨b,n*2+1,none⟩=some (.slice (some ⟨g,0,none⟩) 64 cg)/\Sec w base (.slice (some ⟨g,0,none⟩) 64 cg) l[n].2:=by
 obtain⟨-,us,h1,h2,h3⟩:=h
 obtain⟨u,k1,k2⟩:=h3 n hn
 have h2':=h2
 obtain⟨hl,⟨rfl,h0⟩|⟨b,cap,cur,rfl,hb,hg,hnc,hcm,hcs,ht⟩⟩:=h2
 ·omega
 ·obtain⟨m1,m2⟩:=lateCells_at l us n l[n] u (List.getElem?_eq_getElem hn) k1
  have k2':=k2
  obtain⟨g,cg,rfl,_⟩:=k2
  exact⟨b,cap,g,cg,rfl,(ges.1 hg).1,hnc,hcm,(h2'.cellAt (n*2) (by omega)).trans m1,(h2'.cellAt (n*2+1) (by omega)).trans m2,k2'⟩
theorem putAll_take{l:List (Nat × List UInt8)}{j:Nat}(hj:j<l.length)(h:List (List UInt8)):M.putAll (l.take (j+1)) h=(M.putAll (l.take j) h).set l[j].1 l[j].2:=by
 rw[List.take_succ_eq_append_getElem hj,M.putAll_snoc]
theorem dSync_any(d:Nat)(hv sv lv:Value)(D:M.Dk)(w:World)(h:DiskIs w d hv sv lv D)(hl:D.left<=9223372036854775807)(hlt:∀ p∈D.late,p.1<D.held.length)(hlen:D.late.length<=1000000):
 Calls Tryz.prog 313 #[.pointer (some ⟨d,0,none⟩)] w fun e w'=>(∃ v,e=.returned v)/\∃ lv',DiskIs w' d hv sv lv' D.sync/\Chg (dFoot d hv sv lv) w w'/\(∀ k,lv'.ownBlock=some k->lv.ownBlock=some k\/w.heap.size<=k):=by
 have cL:=dLost_any d hv sv lv D w h hl
 obtain⟨L,hLe⟩:∃ L,(D.dead || D.left == 0)=L:=⟨_,rfl⟩
 have HW:Hid (D.sync=if L=true then D.tick else { D.tick with held:=M.putAll D.late D.held,late:=[] }):=by
  show _ = _
  unfold M.Dk.sync M.Dk.tick
  simp only[hLe]
  cases L <;> rfl
 rw[hLe] at cL
 have HT:Hid (D.tick.late=D.late/\D.tick.held=D.held):=⟨rfl,rfl⟩
 generalize D.tick=T at cL HW HT
 have HLt:=hid hlt
 have HLen:=hid hlen
 clear h hl hlt hlen hLe
 go_enter Tryz.func313,Tryz.ntmps313
 go_wp2_with fail
 refine cL.mono ?_
 rintro e w4 ⟨rfl,hD4,hG4⟩
 clear cL
 have HC4:Hid (Chg (dFoot d hv sv lv) w w4):=Chg.grown hG4 (fun k e _=>.inl (Option.some.inj e).symm)
 have HD4:=hid hD4
 cases L with
 | true=>
  have HD5:Hid (DiskIs w4 d hv sv lv D.sync):=by
   show DiskIs _ _ _ _ _ _
   rw[HW.out,if_pos rfl]
   exact hD4
  clear hD4 hG4 HW
  go_wp2
  refine bodyPost_ret (results_none rfl _ _ _) rfl ?_
  exact⟨⟨_,rfl⟩,lv,HD5.out,HC4.out,fun k hk=>.inl hk⟩
 | false=>
  have HW3:Hid (D.sync={ T with held:=M.putAll D.late D.held,late:=[] }):=by
   show _ = _
   rw[HW.out,if_neg (by decide)]
  clear HW
  obtain⟨al,cl,el⟩:=hD4.late.form
  subst el
  obtain⟨ah,ch,eh⟩:=hD4.held.form
  subst eh
  have s2:w4.cell? ⟨d,2,none⟩=some (.slice al T.late.length cl):=(cell_of_row w4 _ 2 _ _ (0,0) hD4.blk).trans rfl
  have hTl:T.late.length<=1000000:=by rw[HT.out.1];exact HLen.out
  clear hD4 hG4
  go_wp2
  go_loopw [11] (fun i wr=>∃ j:Nat,i=.int .i64 j/\j<=T.late.length/\Hid (DiskIs wr d (.slice ah T.held.length ch) sv (.slice al T.late.length cl) { T with held:=M.putAll (T.late.take j) T.held })/\Hid (Chg (dFoot d (.slice ah T.held.length ch) sv (.slice al T.late.length cl)) w4 wr)) (fun i _=>T.late.length-(intOf i).toNat)
  case atStart=>exact⟨0,rfl,Nat.zero_le _,HD4,Chg.refl _ _⟩
  case round=>
   obtain⟨j,rfl,hj,HD,HC⟩:=hrel
   by_cases hjl:j<T.late.length
   ·obtain⟨b,c,g,cg,eb,hb,hc1,hc2,p0,p1,hsec⟩:=late_at HD.out.late hjl
    cases eb
    simp only at p0 p1 hsec
    have hnn:T.late[j].1<(M.putAll (T.late.take j) T.held).length:=by
     rw[M.putAll_len,HT.out.2]
     exact HLt.out _ (by rw[<-HT.out.1];exact List.getElem_mem hjl)
    obtain⟨hb0,hc0,g0,cg0,eh,hhb,hhc,hhc2,ph,-⟩:=HD.out.held.at hnn
    simp only at eh ph
    injection eh with e1 e2 e3
    subst e1 e3
    have q0:wr.cell? ⟨d,0,none⟩=some (.slice (some ⟨hb0,0,none⟩) T.held.length ch):=(cell_of_row wr _ 0 _ _ (0,0) HD.out.blk).trans rfl
    rw[M.putAll_len] at hnn hhc
    have hfz:wr.frozen? ⟨hb0,T.late[j].1,none⟩=false:=by obtain⟨cur,ht⟩:=HD.out.held.type hb0 rfl;exact frozen_of_row wr _ _ _ _ ht
    clear e2
    have hdl:d<wr.heap.size:=(ges.1 HD.out.blk).1
    generalize hx:T.late[j]=X at p0 p1 hsec hnn ph hfz
    obtain⟨xn,xd⟩:=X
    simp only at p0 p1 hsec hnn ph hfz
    have hm1:T.late.length<=9223372036854775807:=by omega
    have HX:=hid hx
    have hbx:=World.block_lt_of_cell? _ _ p0
    have HN:Hid (DiskIs (((wr.setCell ⟨hb0,xn,none⟩ (.slice (some ⟨g,0,none⟩) 64 cg)).alloc (.cells #[.int .i64 xn,.slice (some ⟨g,0,none⟩) 64 cg] 246)).drew) d (.slice (some ⟨hb0,0,none⟩) T.held.length ch) sv (.slice (some ⟨b,0,none⟩) T.late.length cl) { T with held:=M.putAll (T.late.take (j+1)) T.held }/\
     Chg (dFoot d (.slice (some ⟨hb0,0,none⟩) T.held.length ch) sv (.slice (some ⟨b,0,none⟩) T.late.length cl)) w4 (((wr.setCell ⟨hb0,xn,none⟩ (.slice (some ⟨g,0,none⟩) 64 cg)).alloc (.cells #[.int .i64 xn,.slice (some ⟨g,0,none⟩) 64 cg] 246)).drew)):=by
     have h':DiskIs wr d (.slice (some ⟨hb0,0,none⟩) (M.putAll (T.late.take j) T.held).length ch) sv (.slice (some ⟨b,0,none⟩) T.late.length cl) { T with held:=M.putAll (T.late.take j) T.held }:=by rw[M.putAll_len];exact HD.out
     obtain⟨r1,r2⟩:=DiskIs.putHeld (D:={ T with held:=M.putAll (T.late.take j) T.held }) (n:=xn) h' (.slice (some ⟨g,0,none⟩) 64 cg) xd hsec
     simp only at r1
     rw[M.putAll_len] at r1
     have hB:Below (wr.setCell ⟨hb0,xn,none⟩ (.slice (some ⟨g,0,none⟩) 64 cg)).heap.size (wr.setCell ⟨hb0,xn,none⟩ (.slice (some ⟨g,0,none⟩) 64 cg)) (((wr.setCell ⟨hb0,xn,none⟩ (.slice (some ⟨g,0,none⟩) 64 cg)).alloc (.cells #[.int .i64 xn,.slice (some ⟨g,0,none⟩) 64 cg] 246)).drew):=((Below.refl _ _).alloc ler _).drew
     refine⟨?_,(HC.out.then (Chg.grown r2 (fun k e _=>e)) (fun k _ e=>.inr (.inl e))).then (Chg.below (F:=fun _=>False) hB) (fun _ _ f=>f.elim)⟩
     rw[putAll_take hjl,hx]
     exact r1.below hB
    clear hx hsec HX
    go_wp2
    go_region
    go_wp2
    go_roundw
    case rel=>exact⟨j+1,by go_num,by omega,HN.out.1,HN.out.2⟩
    case measure=>simp[intOf];omega
   ·have hjj:j=T.late.length:=by omega
    subst hjj
    have HE:Hid (DiskIs (wr.setCell ⟨d,2,none⟩ (.slice none 0 0)) d (.slice ah T.held.length ch) sv (.slice none 0 0) D.sync/\Chg (dFoot d (.slice ah T.held.length ch) sv (.slice al T.late.length cl)) w (wr.setCell ⟨d,2,none⟩ (.slice none 0 0))):=by
     obtain⟨r1,r2⟩:=HD.out.noLate
     rw[List.take_length,HT.out.1,HT.out.2] at r1
     refine⟨?_,(HC4.out.then HC.out (fun _ _ e=>e)).then (Chg.grown r2 (fun k e _=>e)) (fun k _ e=>.inl (Option.some.inj e).symm)⟩
     rw[HW3.out,HT.out.2]
     exact r1
    have q2:wr.cell? ⟨d,2,none⟩=some (.slice al T.late.length cl):=(cell_of_row wr _ 2 _ _ (0,0) HD.out.blk).trans rfl
    have f2:wr.frozen? ⟨d,2,none⟩=false:=frozen_of_row wr _ _ _ _ HD.out.blk
    clear s2
    go_wp2
    go_end0
    exact⟨⟨_,rfl⟩,_,HE.out.1,HE.out.2,fun k hk=>by cases hk⟩
theorem nil_Write (a : Addr) (w : World) : (nilAhead 488 57 (.pointer (some a)) "Write").run Tryz.prog w = .ok (some false) w := by kernel_rfl
theorem meth_Write (a : Addr) (w : World) : (method 488 57 (.pointer (some a)) "Write").run Tryz.prog w = .ok (314, .pointer (some a)) w := by kernel_rfl
theorem nil_Sync (a : Addr) (w : World) : (nilAhead 488 57 (.pointer (some a)) "Sync").run Tryz.prog w = .ok (some false) w := by kernel_rfl
theorem meth_Sync (a : Addr) (w : World) : (method 488 57 (.pointer (some a)) "Sync").run Tryz.prog w = .ok (313, .pointer (some a)) w := by kernel_rfl
theorem nil_Sectors (a : Addr) (w : World) : (nilAhead 488 57 (.pointer (some a)) "Sectors").run Tryz.prog w = .ok (some false) w := by kernel_rfl
theorem meth_Sectors (a : Addr) (w : World) : (method 488 57 (.pointer (some a)) "Sectors").run Tryz.prog w = .ok (312, .pointer (some a)) w := by kernel_rfl
def SecsOf(w:World)(d n:Nat):Prop:=∃ a c,w.cell? ⟨d,1,none⟩=some (.slice a n c)/\n<=c/\c<=maxLen
theorem DiskIs.secsOf{w:World}{d:Nat}{hv sv lv:Value}{D:M.Dk}(h:DiskIs w d hv sv lv D)(hn:0<D.seen.length):SecsOf w d D.seen.length:=by
 obtain⟨b,c,g,cg,rfl,_,h1,h2,_⟩:=h.seen.at hn
 exact⟨_,c,(cell_of_row w _ 1 _ _ (0,0) h.blk).trans rfl,h1,h2⟩
theorem SecsOf.below{w w':World}{d n:Nat}(h:SecsOf w d n)(hb:Below w.heap.size w w'):SecsOf w' d n:=by
 obtain⟨a,c,h1,h2⟩:=h
 exact⟨a,c,(hb.cell (p:=⟨d,1,none⟩) (World.block_lt_of_cell? _ _ h1)).trans h1,h2⟩
theorem dSectors_any(d n:Nat)(w:World)(h:SecsOf w d n):Calls Tryz.prog 312 #[.pointer (some ⟨d,0,none⟩)] w fun e w'=>e=.returned (.int .i64 n)/\w=w':=by
 obtain⟨a,c,h1,h2,h3⟩:=h
 have h4:c<=9223372036854775807:=by unfold maxLen at h3;omega
 go_enter Tryz.func312,Tryz.ntmps312
 go_wp2
 go_ret
 exact⟨rfl,rfl⟩
theorem kLength_any(k d half n:Nat)(w:World)(hk:KnownAt w k d half)(h:SecsOf w d n)(h1:16<=n)(h2:n<=256):Calls Tryz.prog 233 #[.pointer (some ⟨k,0,none⟩)] w fun e w'=>e=.returned (.int .i64 ((n-1) / 2:Nat))/\w=w':=by
 have n1:=nil_Sectors
 have n2:=meth_Sectors
 have cS:=dSectors_any d n w h
 have q0:w.cell? ⟨k,0,none⟩=some (.iface 57 (.pointer (some ⟨d,0,none⟩))):=by rw[cell_of_row w _ 0 _ _ (0,0) hk];rfl
 clear h hk
 go_enter Tryz.func233,Tryz.ntmps233
 go_wp2_with (go_at_call 312;refine cS.mono ?_;rintro e w' ⟨rfl,rfl⟩)
 go_ret
 exact⟨ret_int (by omega),rfl⟩
theorem kStart_any(k d half n:Nat)(o:Nat)(w:World)(hk:KnownAt w k d half)(h:SecsOf w d n)(h1:16<=n)(h2:n<=256)(ho:o<=1):Calls Tryz.prog 174 #[.pointer (some ⟨k,0,none⟩),.int .i64 o] w fun e w'=>e=.returned (.int .i64 (1+o*((n-1) / 2):Nat))/\w=w':=by
 have cL:=kLength_any k d half n w hk h h1 h2
 have hn:(n-1) / 2<=128:=by omega
 generalize (n-1) / 2=N at cL hn
 clear h hk
 rcases Nat.lt_or_ge o 1 with h0|h0
 ·have e:o=0:=by omega
  subst e
  go_enter Tryz.func174,Tryz.ntmps174
  go_wp2_with (go_at_call 233;refine cL.mono ?_;rintro e w' ⟨rfl,rfl⟩)
  go_ret
  exact⟨ret_int (by simp),rfl⟩
 ·have e:o=1:=by omega
  subst e
  go_enter Tryz.func174,Tryz.ntmps174
  go_wp2_with (go_at_call 233;refine cL.mono ?_;rintro e w' ⟨rfl,rfl⟩)
  go_ret
  exact⟨ret_int (by simp),rfl⟩
theorem kRoom_any(k d half n:Nat)(w:World)(hk:KnownAt w k d half)(h:SecsOf w d n)(h1:16<=n)(h2:n<=256):Calls Tryz.prog 84 #[.pointer (some ⟨k,0,none⟩)] w fun e w'=>e=.returned (.int .i64 (24*((n:Int)-8)))/\w=w':=by
 have n1:=nil_Sectors
 have n2:=meth_Sectors
 have cS:=dSectors_any d n w h
 have q0:w.cell? ⟨k,0,none⟩=some (.iface 57 (.pointer (some ⟨d,0,none⟩))):=by rw[cell_of_row w _ 0 _ _ (0,0) hk];rfl
 clear h hk
 go_enter Tryz.func84,Tryz.ntmps84
 go_wp2_with (go_at_call 312;refine cS.mono ?_;rintro e w' ⟨rfl,rfl⟩)
 go_ret
 exact⟨ret_int (by omega),rfl⟩
theorem sectorsOf_any(n:Nat)(w:World)(h:n<=1000000):Calls Tryz.prog 173 #[.int .i64 n] w fun e w'=>e=.returned (.int .i64 (M.secN n))/\w=w':=by
 go_enter Tryz.func173,Tryz.ntmps173
 go_wp2
 go_ret
 exact⟨ret_int (by unfold M.secN;omega),rfl⟩
theorem head_cells(half size:Nat)(h1:half<=1)(h2:size<65536):(M.dHead half size).map byteV=[.int .u8 (half:Int),.int .u8 ((size:Int) / 256),.int .u8 ((size:Int) % 256)]:=by
 unfold M.dHead byteV
 simp only[List.map_cons,List.map_nil,UInt8.toNat_ofNat']
 rw[show ((half % 2 ^ 8:Nat):Int)=half by omega,show ((size / 256 % 2 ^ 8:Nat):Int)=(size:Int) / 256 by omega,show ((size % 2 ^ 8:Nat):Int)=(size:Int) % 256 by omega]
theorem writeHead_any(half size:Nat)(w:World)(h1:half<=1)(h2:size<65536):Calls Tryz.prog 190 #[.int .i64 half,.int .i64 size] w fun e w'=>e=.returned (.slice (some ⟨w.heap.size,0,none⟩) 3 3)/\w'=w.alloc (.cells ((M.dHead half size).map byteV).toArray 5):=by
 go_enter Tryz.func190,Tryz.ntmps190
 go_wp2
 go_ret
 exact⟨rfl,by rw[head_cells half size h1 h2]⟩
theorem or_head(b c:Nat)(hb:b<=255)(hc:c<=255):bits .or .i64 ((b:Int)*256) (c:Int)=((b*256+c:Nat):Int):=by
 show IntKind.i64.wrap ((BitVec.ofInt 64 ((b:Int)*256) ||| BitVec.ofInt 64 (c:Int)).toNat:Int) = _
 rw[show (b:Int)*256=((b*256:Nat):Int) by omega,BitVec.ofInt_natCast,BitVec.ofInt_natCast]
 have e3:(BitVec.ofNat 64 (b*256) ||| BitVec.ofNat 64 c).toNat=b*256+c:=by
  rw[BitVec.toNat_or,BitVec.toNat_ofNat,BitVec.toNat_ofNat,Nat.mod_eq_of_lt (by omega),Nat.mod_eq_of_lt (by omega)]
  have:=Nat.shiftLeft_add_eq_or_of_lt (b:=c) (i:=8) (by omega) b
  rw[Nat.shiftLeft_eq,show 2 ^ 8=256 from rfl] at this
  exact this.symm
 rw[e3,IntKind.wrap_i64]
 omega
theorem readHead_any(x:List UInt8)(half size:Nat)(w:World)(hh:M.headIs x half size):Calls Tryz.prog 129 #[.agg (x.map byteV).toArray] w fun e w'=>e=.returned (.tuple #[.int .i64 half,.int .i64 size])/\Below w.heap.size w w':=by
 obtain⟨a,b,c,ha,hb,hc,h1,h2⟩:=hh
 have la:=a.toNat_lt
 have lb:=b.toNat_lt
 have lc:=c.toNat_lt
 go_enter Tryz.func129,Tryz.ntmps129
 go_wp2
 generalize hA:w.alloc (.cells (x.map byteV).toArray 232)=A
 have hB:Below w.heap.size w A:=by rw[<-hA];exact(Below.refl _ w).alloc ler _
 have hbk:A.heap[w.heap.size]? = some (.cells (x.map byteV).toArray 232 (0,0)):=by rw[<-hA];exact heap_alloc_new w _
 have p0:A.cell? ⟨w.heap.size,0,none⟩=some (.int .u8 a.toNat):=(cell_of_row A _ 0 _ _ (0,0) hbk).trans (by simp[ha,byteV])
 have p1:A.cell? ⟨w.heap.size,1,none⟩=some (.int .u8 b.toNat):=(cell_of_row A _ 1 _ _ (0,0) hbk).trans (by simp[hb,byteV])
 have p2:A.cell? ⟨w.heap.size,2,none⟩=some (.int .u8 c.toNat):=(cell_of_row A _ 2 _ _ (0,0) hbk).trans (by simp[hc,byteV])
 have HR:Hid (a.toNat % 2=half/\b.toNat*256+c.toNat=size):=⟨h1,h2⟩
 have la':a.toNat<=255:=by omega
 have lb':b.toNat<=255:=by omega
 have lc':c.toNat<=255:=by omega
 have hor:=or_head b.toNat c.toNat lb' lc'
 clear hA hbk ha hb hc h1 h2 la lb lc
 go_region
 all_goals
  go_wp2
  go_ret2
  obtain⟨h1,h2⟩:=HR.out
  subst h1 h2
  refine⟨?_,bt hB (below_same A 1)⟩
  first
   | rfl
   | (congr 3;omega)
end Go.Proofs.YtgnfknjopafngabGreatDoor
namespace Go.Proofs
open Go.Shelf
def Tryz.lays169_ren:Go.Shelf.Ren:=⟨fun|169=>126|n=>n,fun|70=>205|9=>9|0=>0|72=>207|37=>102|127=>254|3=>3|5=>5|n=>n,fun|n=>n⟩
theorem Tryz.lays169:Go.Proofs.Lays.n169 Tryz.prog Tryz.lays169_ren:={
 mixed:=by kernel_rfl
 f169:=Tryz.func126.trans (congrArg some (by kernel_rfl))
 t0:=Tryz.underlying0
 a0:=Tryz.isAgg0
 z0:=Tryz.sizeOf0
 v0:=Tryz.zeroValue0
 t3:=Tryz.underlying3
 a3:=Tryz.isAgg3
 z3:=Tryz.sizeOf3
 v3:=Tryz.zeroValue3
 t9:=Tryz.underlying9
 a9:=Tryz.isAgg9
 z9:=Tryz.sizeOf9
 v9:=Tryz.zeroValue9
 t37:=Tryz.underlying102
 a37:=Tryz.isAgg102
 z37:=Tryz.sizeOf102
 v37:=Tryz.zeroValue102
 t70:=Tryz.underlying205
 a70:=Tryz.isAgg205
 z70:=Tryz.sizeOf205
 v70:=Tryz.zeroValue205
 t72:=Tryz.underlying207
 a72:=Tryz.isAgg207
 z72:=Tryz.sizeOf207
 v72:=Tryz.zeroValue207
 t127:=Tryz.underlying254
 a127:=Tryz.isAgg254
 z127:=Tryz.sizeOf254
 v127:=Tryz.zeroValue254 }
theorem Tryz.Builder_Extra_169:Builder.Extra Tryz.prog Tryz.lays169_ren:={
 sizeBuilder:=by kernel_rfl
 liesBuilder:=by kernel_rfl
 t5:=Tryz.underlying5
 a5:=Tryz.isAgg5
 z5:=Tryz.sizeOf5
 v5:=Tryz.zeroValue5
 infoByte:=by kernel_rfl
 cellsByte:=by kernel_rfl
 sizeByte:=by kernel_rfl
 neB5:=by decide }
open Go.RowKit in
theorem Tryz.Builder_String_any(B b:Nat)(l:List UInt8)(w:World)(h:Lib.IsBuilder 207 5 B b (Lib.byteCells l) w)(hBw:B<=w.heap.size):
 Calls Tryz.prog 126 #[.pointer (some ⟨b,0,none⟩)] w fun e w'=>e=.returned (.string ⟨l.toArray⟩)/\Below B w w':=Any.Builder_String_any Tryz.lays169 Tryz.Builder_Extra_169 B b l w h hBw
end Go.Proofs
namespace Go.Proofs.YtgnfknjopafngabGreatDoor
open Go.RowKit
abbrev BuiltAt(B b:Nat)(p:Value)(bs:List Value)(w:World):Prop:=Lib.BuilderAt 207 5 B b p bs w
theorem bSize:(Tryz.prog.info? 207).map (·.size)=some 2:=by kernel_rfl
theorem bLies:liesAt Tryz.prog Tryz.prog.depth 207 (2 / Tryz.prog.cellsOf 207) 0 207 1=true:=by kernel_rfl
theorem copyCheck_used(b:Nat)(w:World)(h0:w.cell? ⟨b,0,none⟩=some (.pointer (some ⟨b,0,none⟩))):
 Calls Tryz.prog 171 #[.pointer (some ⟨b,0,none⟩)] w fun e w'=>(∃ v,e=.returned v)/\w'=w:=by
 obtain⟨j,hj,_⟩:=Option.map_eq_some_iff.1 bSize
 go_enter Tryz.func171,Tryz.ntmps171
 go_wp2
 rw[Lib.run_neq_ptr_same w _ Tryz.underlying205 hj]
 go_wp2
 go_end0
 exact⟨⟨_,rfl⟩,rfl⟩
theorem copyCheck_fresh(b:Nat)(w:World)(h0:w.cell? ⟨b,0,none⟩=some (.pointer none))(hsh:w.shape? b=some (207,2))(hfz:w.frozen? ⟨b,0,none⟩=false):
 Calls Tryz.prog 171 #[.pointer (some ⟨b,0,none⟩)] w fun e w'=>(∃ v,e=.returned v)/\w'=w.setCell ⟨b,0,none⟩ (.pointer (some ⟨b,0,none⟩)):=by
 obtain⟨j,hj,hjs⟩:=Option.map_eq_some_iff.1 bSize
 go_enter Tryz.func171,Tryz.ntmps171
 go_wp2
 rw[Lib.run_to_unsafe w ⟨b,0,none⟩ Tryz.underlying205 Tryz.underlying147 hj (by rw[hjs];decide) hsh (Nat.zero_lt_succ 1)]
 simp only[Result.andThen]
 rw[Oper.upon_value]
 go_wp2
 rw[run_callFunc_extern Tryz.func231 (by kernel_rfl) (by kernel_rfl) (by kernel_rfl) (e:=Extern.AbiNoEscape.same) (by kernel_rfl)]
 rw[Lib.run_noEscape]
 simp only[Result.andThen]
 rw[Oper.upon_value]
 go_wp2
 rw[Lib.run_from_unsafe w ⟨b,0,none⟩ Tryz.underlying147 Tryz.underlying205 hj hsh bLies]
 simp only[Result.andThen]
 rw[Oper.upon_value]
 go_wp2
 go_end0
 exact⟨⟨_,rfl⟩,rfl⟩
def BytesAt(B b:Nat)(l:List UInt8)(w:World):Prop:=Lib.IsBuilder 207 5 B b (l.map byteV) w
theorem bTe:207≠5:=by decide
theorem copyCheck_any(B b:Nat)(bs:List Value)(w:World)(h:Lib.IsBuilder 207 5 B b bs w):
 Calls Tryz.prog 171 #[.pointer (some ⟨b,0,none⟩)] w fun e w'=>(∃ v,e=.returned v)/\BuiltAt B b (.pointer (some ⟨b,0,none⟩)) bs w'/\Below B w w'/\w'.heap.size=w.heap.size/\(∀ k,k≠b->w'.heap[k]? = w.heap[k]?):=by
 rcases h with h|h
 ·refine(copyCheck_fresh b w h.cell0 h.shape h.frozen0).mono ?_
  rintro e w' ⟨hv,rfl⟩
  exact⟨hv,h.used _,(Below.refl B w).setCell (p:=⟨b,0,none⟩) h.1 _,by simp,fun k hk=>Below.heap_setCell _ _ _ _ (fun e=>hk e)⟩
 ·refine(copyCheck_used b w h.cell0).mono ?_
  rintro e w' ⟨hv,rfl⟩
  exact⟨hv,h,Below.refl B _,rfl,fun k hk=>rfl⟩
theorem add_bytes{B b g c:Nat}{p:Value}{l x:List UInt8}{w:World}(ty:TypeId)(h:BuiltAt B b p (l.map byteV) w)(hBw:B<=w.heap.size)(hg:∀ j u,(x.map byteV)[j]? = some u->w.cell? ⟨g,j,none⟩=some u)(hl:l.length+x.length<=1000000):
 ∃ a a' n' c0 c' w',w.cell? ⟨b,1,none⟩=some (.slice a l.length c0)/\(Builtin.append_ #[102,102] ty #[.slice a l.length c0,.slice (some ⟨g,0,none⟩) x.length c]).run Tryz.prog w=.ok (.slice a' n' c') w'/\
  w'.cell? ⟨b,1,none⟩=some (.slice a l.length c0)/\w'.frozen? ⟨b,1,none⟩=false/\BuiltAt B b p ((l++x).map byteV) (w'.setCell ⟨b,1,none⟩ (.slice a' n' c'))/\Below B w (w'.setCell ⟨b,1,none⟩ (.slice a' n' c')):=by
 obtain⟨i0,hi0,hz0,hz1,hz2⟩:=info_parts u8Info
 obtain⟨hB,v,hb,hown,hne⟩:=h
 have hlen:(l.map byteV).length=l.length:=List.length_map ..
 rw[hlen] at hown
 obtain⟨a,c0,e⟩:=own_form hown
 subst e
 obtain⟨v',w',hrun,r1,r2,_,r4⟩:=run_append_own_at (P:=Tryz.prog) w B 102 ty 5 i0 _ 1 1 Tryz.underlying102 hi0 hz0 hz1 hz2 rfl (by decide) _ _ _ hown ⟨g,0,none⟩ x.length c (x.map byteV) (by simp) (fun j y hy=>by
  rw[Addr.add_lit,Nat.zero_add];exact hg j y hy) (fun y hy=>by obtain⟨q,_,rfl⟩:=List.mem_map.1 hy;rfl) (by unfold maxLen;omega) (by omega) hBw
 obtain⟨a',c',e⟩:=own_form r1
 subst e
 have hb':=heap_kept hb r2 (fun e=>hne e.symm)
 have hput:=Lib.BuilderAt.put (bs':=(l++x).map byteV) hB hb' (by rw[List.length_map,List.length_append,List.map_append];exact r1) bTe
 refine⟨a,a',l.length+x.length,c0,c',w',(cell_of_row w _ 1 _ _ (0,0) hb).trans rfl,hrun,(cell_of_row w' _ 1 _ _ (0,0) hb').trans rfl,frozen_of_row w' _ _ _ _ hb',hput,?_⟩
 exact((Below.refl B w).grown r2 hBw (fun k hk=>(hown.lt k hk).1)).setCell (p:=⟨b,1,none⟩) hB _
theorem bWrite_any(B b g c:Nat)(l x:List UInt8)(w:World)(h:BytesAt B b l w)(hBw:B<=w.heap.size)(hg:∀ j u,(x.map byteV)[j]? = some u->w.cell? ⟨g,j,none⟩=some u)(hgb:g≠b)(hl:l.length+x.length<=1000000):
 Calls Tryz.prog 175 #[.pointer (some ⟨b,0,none⟩),.slice (some ⟨g,0,none⟩) x.length c] w fun e w'=>(∃ v,e=.returned v)/\BytesAt B b (l++x) w'/\Below B w w':=by
 have cC:=copyCheck_any B b _ w h
 have HG:=hid hg
 have HL:=hid hl
 have hxl:x.length<=1000000:=by omega
 clear h hg hl
 go_enter Tryz.func175,Tryz.ntmps175
 go_wp2_with (first|(go_at_call 171;refine cC.mono ?_;rintro e w2 ⟨⟨v2,rfl⟩,h2,h3,h4,h5⟩;obtain⟨a,a',n',c0,c',w3,s1,s2,s3,s4,s5,s6⟩:=add_bytes (c:=c) 102 h2 (by omega) (fun j u hu=>(World.cell?_of_block (h5 g hgb)).trans (HG.out j u hu)) HL.out;have HR:Hid _:=s2;have HE:Hid _:=And.intro h3 (And.intro s5 s6);clear h2 h3 h4 h5 s2 s5 s6)|(at_builtin;refine wpList_append_eq rfl (.tmp 12) (.tmp 13) 102 rfl _ _ _ _ rfl rfl HR.out ?_))
 go_ret2
 exact⟨⟨_,rfl⟩,.inr HE.out.2.1,HE.out.1.trans HE.out.2.2⟩
end Go.Proofs.YtgnfknjopafngabGreatDoor
