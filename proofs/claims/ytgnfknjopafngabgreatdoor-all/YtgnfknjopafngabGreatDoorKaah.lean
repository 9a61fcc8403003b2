import Derived.Test.YtgnfknjopafngabGreatDoorKaag
set_option maxRecDepth 100000
set_option maxHeartbeats 8000000
namespace Go.Proofs.YtgnfknjopafngabGreatDoor
open Go.RowKit
theorem Z4i{l:List (Nat × List UInt8)}{j:Nat}(hj:j<l.length):l.take (j+1)=l.take j++[l[j]]:=List.take_succ_eq_append_getElem hj
theorem Z9f{w:World}{d g0 cg:Nat}{x:List UInt8}(hu:Sec w (d+1) (.slice (some ⟨g0,0,none⟩) 64 cg) x)(hd:d<w.heap.size)(ty:TypeId):
 ∃ g c w',(Builtin.append_ #[102,102] ty #[.slice none 0 0,.slice (some ⟨g0,0,none⟩) 64 cg]).run Tryz.prog w=.ok (.slice (some ⟨g,0,none⟩) 64 c) w'/\Sec w' (d+1) (.slice (some ⟨g,0,none⟩) 64 c) x/\Below w.heap.size w w':=by
 obtain⟨i0,hi0,hz0,hz1,hz2⟩:=info_parts Z49
 obtain⟨g,c,e,h4,h5,h1,⟨cur,h2⟩,h6,h3⟩:=hu
 cases e
 obtain⟨v',w',hrun,r1,r2,_,r4⟩:=run_append_own_at (P:=Tryz.prog) w (d+1) 102 ty 5 i0 _ 1 1 Tryz.underlying102 hi0 hz0 hz1 hz2 rfl (by decide) (.slice none 0 0) 0 [] (World.ownsRow_nil _ _ _ _) ⟨g0,0,none⟩ 64 cg (x.map Zbl) (by simp[h3]) (fun j y hy=>by
  rw[Addr.add_lit,Nat.zero_add];exact h6 j y hy) (fun y hy=>by obtain⟨q,_,rfl⟩:=List.mem_map.1 hy;rfl) (by decide) (by decide) (by omega)
 have r1':=r1
 obtain⟨_,⟨rfl,h0⟩|⟨b,cap,cur',rfl,hb,hg,hnc,hcm,hcs,ht⟩⟩:=r1'
 ·omega
 ·refine⟨b,cap,w',hrun,⟨b,cap,rfl,by omega,hcm,hb,⟨cur',hg⟩,fun j u hu=>?_,h3⟩,⟨r2.os,r2.tape,r2.output,r2.size,fun k hk=>r2.block k hk (fun e=>by cases e)⟩⟩
  have hj:j<x.length:=by
   have:=(List.getElem?_eq_some_iff.1 hu).1
   simpa using this
  rw[r1.cellAt j (by omega)]
  simpa using hu
theorem Zg0.secAt{w:World}{base:Nat}{v:Value}{l:List (List UInt8)}(h:Zg0 w base v l){n:Nat}(hn:n<l.length):
 ∃ b c g cg,v=.slice (some ⟨b,0,none⟩) l.length c/\b<w.heap.size/\l.length<=c/\c<=maxLen/\w.cell? ⟨b,n,none⟩=some (.slice (some ⟨g,0,none⟩) 64 cg)/\Sec w base (.slice (some ⟨g,0,none⟩) 64 cg) l[n]:=by
 obtain⟨vs,h1,h2,h3⟩:=h
 obtain⟨u,k1,hsec⟩:=h3 n hn
 have hsec':=hsec
 obtain⟨g,cg,rfl,_⟩:=hsec
 have h1':=h1
 obtain⟨hl,⟨rfl,h0⟩|⟨b,cap,cur,rfl,hb,hg,hnc,hcm,hcs,ht⟩⟩:=h1
 ·omega
 ·have hc:=h1'.cellAt n (by omega)
  exact⟨b,cap,g,cg,rfl,(ges.1 hg).1,hnc,hcm,hc.trans k1,hsec'⟩
theorem take_set{H S:List (List UInt8)}{j:Nat}(h:S.length=H.length)(hj:j<H.length):(H.take j++S.drop j).set j H[j]=H.take (j+1)++S.drop (j+1):=by
 rw[List.set_append_right _ _ (by rw[List.length_take];omega),List.length_take,Nat.min_eq_left (by omega),Nat.sub_self]
 rw[List.drop_eq_getElem_cons (i:=j) (by omega),List.set_cons_zero,List.take_succ_eq_append_getElem hj,List.append_assoc]
 rfl
theorem Z7w(d:Nat)(mask:Int)(hv sv lv:Value)(D:M.Dk)(w:World)(h:Zai w d hv sv lv D)(hlt:∀ p∈D.late,p.1<D.held.length)(hlen:D.late.length<=1000000)(hhl:D.seen.length=D.held.length)(h2:D.held.length<=256):
 Calls Tryz.prog 102 #[.pointer (some ⟨d,0,none⟩),.int .i64 mask] w fun e w'=>(∃ v,e=.returned v)/\∃ sel,(D.dead=false->∀ i,sel i=true)/\
  Zai w' d hv sv (.slice none 0 0) { held:=M.Zbd sel 0 D.late D.held,seen:=M.Zbd sel 0 D.late D.held,late:=[],left:=-1,dead:=false }/\Chg (Zb1 d hv sv lv) w w':=by
 obtain⟨al,cl,el⟩:=h.late.form
 subst el
 obtain⟨ah,ch,eh⟩:=h.held.form
 subst eh
 have HD0:=hid h
 have HLt:=hid hlt
 have s2:w.cell? ⟨d,2,none⟩=some (.slice al D.late.length cl):=(cell_of_row w _ 2 _ _ (0,0) h.blk).trans rfl
 obtain⟨dd,hdd⟩:∃ b,D.dead=b:=⟨_,rfl⟩
 have HDD:=hid hdd
 have HS:=hid hhl
 clear h hlt hdd hhl
 go_enter Tryz.func102,Tryz.ntmps102
 go_wp2
 go_loopw [4,5,12] (fun _ _ i wr=>∃ (j:Nat) (sel:Nat->Bool),i=.int .i64 j/\j<=D.late.length/\Hid (D.dead=false->∀ i,sel i=true)/\Hid (Zai wr d (.slice ah D.held.length ch) sv (.slice al D.late.length cl) { D with held:=M.Zbd sel 0 (D.late.take j) D.held })/\Hid (Chg (Zb1 d (.slice ah D.held.length ch) sv (.slice al D.late.length cl)) w wr)) (fun _ _ i _=>D.late.length-(intOf i).toNat)
 case atStart=>exact⟨0,fun _=>true,rfl,Nat.zero_le _,fun _ _=>rfl,HD0,Chg.refl _ _⟩
 case round=>
  obtain⟨j,sel,rfl,hj,HSel,HD,HC⟩:=hrel
  by_cases hjl:j<D.late.length
  ·obtain⟨b,c,g,cg,eb,hb,hc1,hc2,p0,p1,hsec⟩:=Zxo HD.out.late hjl
   cases eb
   simp only at p0 p1 hsec
   have hnn:D.late[j].1<(M.Zbd sel 0 (D.late.take j) D.held).length:=by
    rw[M.Zdx]
    exact HLt.out _ (List.getElem_mem hjl)
   obtain⟨hb0,hc0,g0,cg0,eh,hhb,hhc,hhc2,ph,-⟩:=HD.out.held.at hnn
   simp only at eh ph
   injection eh with e1 e2 e3
   subst e1 e3
   have q0:wr.cell? ⟨d,0,none⟩=some (.slice (some ⟨hb0,0,none⟩) D.held.length ch):=(cell_of_row wr _ 0 _ _ (0,0) HD.out.blk).trans rfl
   have q4:wr.cell? ⟨d,4,none⟩=some (.bool dd):=by rw[<-HDD.out];exact(cell_of_row wr _ 4 _ _ (0,0) HD.out.blk).trans rfl
   rw[M.Zdx] at hnn hhc
   have hfz:wr.frozen? ⟨hb0,D.late[j].1,none⟩=false:=by obtain⟨cur,ht⟩:=HD.out.held.type hb0 rfl;exact frozen_of_row wr _ _ _ _ ht
   clear e2
   have hdl:d<wr.heap.size:=(ges.1 HD.out.blk).1
   generalize hx:D.late[j]=X at p0 p1 hsec hnn ph hfz
   obtain⟨xn,xd⟩:=X
   simp only at p0 p1 hsec hnn ph hfz
   have hm1:D.late.length<=9223372036854775807:=by omega
   have HX:=hid hx
   have hbx:=World.block_lt_of_cell? _ _ p0
   have hdr:Zai wr d (.slice (some ⟨hb0,0,none⟩) D.held.length ch) sv (.slice (some ⟨b,0,none⟩) D.late.length cl) { D with held:=M.Zbd sel 0 (D.late.take j) D.held }:=HD.out
   obtain⟨selN,n1,n2⟩:=M.Zo2 sel (D.late.take j) D.held (xn,xd) false
   obtain⟨selY,y1,y2⟩:=M.Zo2 sel (D.late.take j) D.held (xn,xd) true
   rw[<-hx,<-Z4i hjl,hx] at n1 y1
   rw[if_neg (by decide)] at n1
   rw[if_pos rfl] at y1
   have HNo:Hid (Zai (wr.alloc (.cells #[.int .i64 xn,.slice (some ⟨g,0,none⟩) 64 cg] 246)) d (.slice (some ⟨hb0,0,none⟩) D.held.length ch) sv (.slice (some ⟨b,0,none⟩) D.late.length cl) { D with held:=M.Zbd selN 0 (D.late.take (j+1)) D.held }/\
    Chg (Zb1 d (.slice (some ⟨hb0,0,none⟩) D.held.length ch) sv (.slice (some ⟨b,0,none⟩) D.late.length cl)) w (wr.alloc (.cells #[.int .i64 xn,.slice (some ⟨g,0,none⟩) 64 cg] 246))):=by
    have hB:Below wr.heap.size wr (wr.alloc (.cells #[.int .i64 xn,.slice (some ⟨g,0,none⟩) 64 cg] 246)):=(Below.refl _ _).alloc ler _
    refine⟨?_,HC.out.then (Chg.below (F:=fun _=>False) hB) (fun _ _ f=>f.elim)⟩
    rw[n1]
    exact hdr.below hB
   have HYes:Hid ((D.dead=false->∀ i,selY i=true)/\Zai (((wr.setCell ⟨hb0,xn,none⟩ (.slice (some ⟨g,0,none⟩) 64 cg)).alloc (.cells #[.int .i64 xn,.slice (some ⟨g,0,none⟩) 64 cg] 246)).drew) d (.slice (some ⟨hb0,0,none⟩) D.held.length ch) sv (.slice (some ⟨b,0,none⟩) D.late.length cl) { D with held:=M.Zbd selY 0 (D.late.take (j+1)) D.held }/\
    Chg (Zb1 d (.slice (some ⟨hb0,0,none⟩) D.held.length ch) sv (.slice (some ⟨b,0,none⟩) D.late.length cl)) w (((wr.setCell ⟨hb0,xn,none⟩ (.slice (some ⟨g,0,none⟩) 64 cg)).alloc (.cells #[.int .i64 xn,.slice (some ⟨g,0,none⟩) 64 cg] 246)).drew)):=by
    have h':Zai wr d (.slice (some ⟨hb0,0,none⟩) (M.Zbd sel 0 (D.late.take j) D.held).length ch) sv (.slice (some ⟨b,0,none⟩) D.late.length cl) { D with held:=M.Zbd sel 0 (D.late.take j) D.held }:=by rw[M.Zdx];exact hdr
    obtain⟨r1,r2⟩:=Zai.putHeld (D:={ D with held:=M.Zbd sel 0 (D.late.take j) D.held }) (n:=xn) h' (.slice (some ⟨g,0,none⟩) 64 cg) xd hsec
    simp only at r1
    rw[M.Zdx] at r1
    have hB:Below (wr.setCell ⟨hb0,xn,none⟩ (.slice (some ⟨g,0,none⟩) 64 cg)).heap.size (wr.setCell ⟨hb0,xn,none⟩ (.slice (some ⟨g,0,none⟩) 64 cg)) (((wr.setCell ⟨hb0,xn,none⟩ (.slice (some ⟨g,0,none⟩) 64 cg)).alloc (.cells #[.int .i64 xn,.slice (some ⟨g,0,none⟩) 64 cg] 246)).drew):=((Below.refl _ _).alloc ler _).drew
    refine⟨fun h=>y2 rfl (HSel.out h),?_,(HC.out.then (Chg.grown r2 (fun k e _=>e)) (fun k _ e=>.inr (.inl e))).then (Chg.below (F:=fun _=>False) hB) (fun _ _ f=>f.elim)⟩
    rw[y1]
    exact r1.below hB
   clear hx hsec hdr n1 n2 y1 y2
   cases dd with
   | false=>
    go_wp2
    go_region
    go_wp2
    go_roundw
    case rel=>exact⟨j+1,selY,by go_num,by omega,HYes.out.1,HYes.out.2.1,HYes.out.2.2⟩
    case measure=>simp[intOf];omega
   | true=>
    have HNd:Hid (D.dead=false->∀ i,selN i=true):=fun e=>by rw[HDD.out] at e;cases e
    go_wp2
    ·go_region
     go_wp2
     go_roundw
     case rel=>exact⟨j+1,selY,by go_num,by omega,HYes.out.1,HYes.out.2.1,HYes.out.2.2⟩
     case measure=>simp[intOf];omega
    ·refine⟨⟨j+1,selN,by go_num,by omega,HNd,HNo.out.1,HNo.out.2⟩,?_⟩
     simp[intOf]
     omega
  ·have hjj:j=D.late.length:=by omega
   subst hjj
   have hW0:=HD.out
   rw[List.take_length] at hW0
   have q2:wr.cell? ⟨d,2,none⟩=some (.slice al D.late.length cl):=(cell_of_row wr _ 2 _ _ (0,0) hW0.blk).trans rfl
   have q3:wr.cell? ⟨d,3,none⟩=some (.int .i64 D.left):=(cell_of_row wr _ 3 _ _ (0,0) hW0.blk).trans rfl
   have q4:wr.cell? ⟨d,4,none⟩=some (.bool D.dead):=(cell_of_row wr _ 4 _ _ (0,0) hW0.blk).trans rfl
   have q0:wr.cell? ⟨d,0,none⟩=some (.slice ah D.held.length ch):=(cell_of_row wr _ 0 _ _ (0,0) hW0.blk).trans rfl
   have qf:∀ o,wr.frozen? ⟨d,o,none⟩=false:=fun o=>frozen_of_row wr _ _ _ _ hW0.blk
   clear hW0 s2
   go_wp2
   obtain⟨W,hWe⟩:∃ W,((wr.setCell ⟨d,2,none⟩ (.slice none 0 0)).setCell ⟨d,3,none⟩ (.int .i64 (-1))).setCell ⟨d,4,none⟩ (.bool false)=W:=⟨_,rfl⟩
   rw[hWe]
   generalize hH:M.Zbd sel 0 D.late D.held=H
   have hHl:H.length=D.held.length:=by rw[<-hH,M.Zdx]
   have HW:Hid (Zai W d (.slice ah D.held.length ch) sv (.slice none 0 0) { held:=H,seen:=D.seen,late:=[],left:=-1,dead:=false }/\Chg (Zb1 d (.slice ah D.held.length ch) sv (.slice al D.late.length cl)) w W):=by
    have hW0:=HD.out
    rw[List.take_length,hH] at hW0
    obtain⟨r1,r2⟩:=hW0.noLate
    have g2:(wr.setCell ⟨d,2,none⟩ (.slice none 0 0)).grownBy W (some d):=by
     rw[<-hWe]
     refine⟨rfl,rfl,rfl,by simp,fun k _ hk=>?_⟩
     have hne:k≠d:=fun e=>hk (by rw[e])
     rw[Below.heap_setCell _ _ _ _ hne,Below.heap_setCell _ _ _ _ hne]
    have hb:=heap_setCell_same _ d 4 _ _ (.bool false) (heap_setCell_same _ d 3 _ _ (.int .i64 (-1)) r1.blk)
    rw[hWe] at hb
    refine⟨r1.ctl g2 (-1) false hb,(HC.out.then (Chg.grown r2 (fun k e _=>e)) (fun k _ e=>.inl (Option.some.inj e).symm)).then (Chg.grown g2 (fun k e _=>e)) (fun k _ e=>.inl (Option.some.inj e).symm)⟩
   have HHe:=hid hH
   clear hWe hH q0 q2 q3 q4 qf HD HC HD0
   go_loopw [6,54] (fun _ i wr=>∃ (j:Nat),i=.int .i64 j/\j<=D.held.length/\Hid (Zai wr d (.slice ah D.held.length ch) sv (.slice none 0 0) { held:=H,seen:=H.take j++D.seen.drop j,late:=[],left:=-1,dead:=false })/\Hid (Chg (Zb1 d (.slice ah D.held.length ch) sv (.slice al D.late.length cl)) w wr)) (fun _ i _=>D.held.length-(intOf i).toNat)
   case atStart=>exact⟨0,rfl,Nat.zero_le _,HW.out.1,HW.out.2⟩
   case round=>
    obtain⟨j,rfl,hj,HD,HC⟩:=hrel
    by_cases hjl:j<D.held.length
    ·have hjH:j<H.length:=by omega
     have hSl:(H.take j++D.seen.drop j).length=D.held.length:=by
      rw[List.length_append,List.length_take,List.length_drop,HS.out]
      omega
     obtain⟨hb0,hc0,g0,cg0,eh,hhb,hhc,hhc2,ph,hsec⟩:=HD.out.held.secAt (n:=j) hjH
     simp only at eh ph hsec
     rw[hHl] at eh hhc
     injection eh with e1 e2 e3
     subst e1 e3
     obtain⟨sb,sc,_,_,es,hsb,hsc,hsc2,ps,-⟩:=HD.out.seen.secAt (n:=j) (by rw[hSl];exact hjl)
     simp only at es ps
     rw[hSl] at es hsc
     subst es
     have hdl:d<wr.heap.size:=(ges.1 HD.out.blk).1
     obtain⟨g,c,w',hrun,hs',hB''⟩:=Z9f (w:=wr.drew) hsec hdl 102
     have hB':Below wr.heap.size wr w':=((Below.refl _ wr).drew).trans hB''
     have hD':=HD.out.below hB'
     have q0:wr.cell? ⟨d,0,none⟩=some (.slice (some ⟨hb0,0,none⟩) D.held.length ch):=(cell_of_row wr _ 0 _ _ (0,0) HD.out.blk).trans rfl
     have q1:wr.cell? ⟨d,1,none⟩=some (.slice (some ⟨sb,0,none⟩) D.held.length sc):=(cell_of_row wr _ 1 _ _ (0,0) HD.out.blk).trans rfl
     have q1':w'.cell? ⟨d,1,none⟩=some (.slice (some ⟨sb,0,none⟩) D.held.length sc):=(cell_of_row w' _ 1 _ _ (0,0) hD'.blk).trans rfl
     have ps':w'.cell? ⟨sb,j,none⟩ = _:=(hB'.cell (p:=⟨sb,j,none⟩) hsb).trans ps
     have pf':w'.frozen? ⟨sb,j,none⟩=false:=by obtain⟨cur,ht⟩:=hD'.seen.type sb rfl;exact frozen_of_row w' _ _ _ _ ht
     have HR:=hid hrun
     have HN:Hid (Zai (w'.setCell ⟨sb,j,none⟩ (.slice (some ⟨g,0,none⟩) 64 c)) d (.slice (some ⟨hb0,0,none⟩) D.held.length ch) (.slice (some ⟨sb,0,none⟩) D.held.length sc) (.slice none 0 0) { held:=H,seen:=H.take (j+1)++D.seen.drop (j+1),late:=[],left:=-1,dead:=false }/\
      Chg (Zb1 d (.slice (some ⟨hb0,0,none⟩) D.held.length ch) (.slice (some ⟨sb,0,none⟩) D.held.length sc) (.slice al D.late.length cl)) w (w'.setCell ⟨sb,j,none⟩ (.slice (some ⟨g,0,none⟩) 64 c))):=by
      have h':Zai w' d (.slice (some ⟨hb0,0,none⟩) D.held.length ch) (.slice (some ⟨sb,0,none⟩) (H.take j++D.seen.drop j).length sc) (.slice none 0 0) { held:=H,seen:=H.take j++D.seen.drop j,late:=[],left:=-1,dead:=false }:=by rw[hSl];exact hD'
      obtain⟨r1,r2⟩:=Zai.putSeen (D:={ held:=H,seen:=H.take j++D.seen.drop j,late:=[],left:=-1,dead:=false }) (n:=j) h' (.slice (some ⟨g,0,none⟩) 64 c) H[j] hs'
      simp only at r1
      rw[hSl,take_set (HS.out.trans hHl.symm) hjH] at r1
      exact⟨r1,(HC.out.then (Chg.below (F:=fun _=>False) hB') (fun _ _ f=>f.elim)).then (Chg.grown r2 (fun k e _=>e)) (fun k _ e=>.inr (.inr (.inl e)))⟩
     clear hrun hs' hD' hsec hSl hB' hB'' HW
     go_wp2
     go_region_law (refine Zen rfl (.const (.slice none 0 0)) (.tmp 68) 102 rfl _ _ _ _ (by simp[Act.eval]) (by simp[Act.eval]) HR.out ?_)
     all_goals
      go_wp2
      refine⟨⟨j+1,by go_num,by omega,HN.out.1,HN.out.2⟩,?_⟩
      simp[intOf]
      omega
    ·have hjj:j=D.held.length:=by omega
     have HE:Hid (Zai wr d (.slice ah D.held.length ch) sv (.slice none 0 0) { held:=H,seen:=H,late:=[],left:=-1,dead:=false }):=by
      have:=HD.out
      rw[hjj,<-hHl,List.take_length,hHl,<-HS.out,List.drop_length,List.append_nil] at this
      rw[HS.out,<-hHl] at this
      rw[<-hHl]
      exact this
     go_wp2
     go_end0
     refine⟨⟨_,rfl⟩,sel,HSel.out,?_,HC.out⟩
     rw[HHe.out]
     exact HE.out
end Go.Proofs.YtgnfknjopafngabGreatDoor
namespace Go.Proofs.YtgnfknjopafngabGreatDoor
open Go.RowKit Go.Maps
theorem Zb6.cell0{w:World}{x d:Nat}{sv:Value}(h:Zb6 w x d sv):w.cell? ⟨x,0,none⟩=some (.pointer (some ⟨d,0,none⟩)):=(cell_of_row w _ 0 _ _ (0,0) h).trans rfl
theorem Zb6.chg{F:Nat->Prop}{w w':World}{x d:Nat}{sv:Value}(h:Zb6 w x d sv)(hc:Chg F w w')(hn:¬ F x):Zb6 w' x d sv:=(hc.block x (ges.1 h).1 hn).trans h
theorem Zb6.off{w:World}{x d:Nat}{s0 hv sv lv:Value}{D:M.Dk}(h:Zb6 w x d s0)(hD:Zai w d hv sv lv D):¬ Zb1 d hv sv lv x:=by
 unfold Zb6 at h
 rintro (rfl|e|e|e)
 ·rw[hD.blk] at h;cases h
 ·obtain⟨c,hc⟩:=hD.held.type x e;rw[hc] at h;cases h
 ·obtain⟨c,hc⟩:=hD.seen.type x e;rw[hc] at h;cases h
 ·obtain⟨c,hc⟩:=hD.late.type x e;rw[hc] at h;cases h
theorem Zti(x d:Nat)(n:Int)(s0 hv sv lv:Value)(D:M.Dk)(w:World)(hx:Zb6 w x d s0)(h:Zai w d hv sv lv D):
 Calls Tryz.prog 46 #[.pointer (some ⟨x,0,none⟩),.int .i64 n] w fun e w'=>(∃ v,e=.returned v)/\Zai w' d hv sv lv { D with left:=max n (-1) }/\w.grownBy w' (some d):=by
 have q0:=hx.cell0
 have q3:w.cell? ⟨d,3,none⟩=some (.int .i64 D.left):=(cell_of_row w _ 3 _ _ (0,0) h.blk).trans rfl
 have f3:w.frozen? ⟨d,3,none⟩=false:=frozen_of_row w _ _ _ _ h.blk
 have HD:=hid h
 clear h hx
 go_enter Tryz.func46,Tryz.ntmps46
 go_wp2
 go_end0
 have hg:=Zax w d 3 (.int .i64 (max n (-1)))
 exact⟨⟨_,rfl⟩,HD.out.ctl hg (max n (-1)) D.dead (heap_setCell_same w d 3 _ _ _ HD.out.blk),hg⟩
theorem Zvl(x d:Nat)(s0 hv sv lv:Value)(D:M.Dk)(w:World)(hx:Zb6 w x d s0)(h:Zai w d hv sv lv D):
 Calls Tryz.prog 45 #[.pointer (some ⟨x,0,none⟩)] w fun e w'=>e=.returned (.bool D.dead)/\w'=w:=by
 have q0:=hx.cell0
 have q4:w.cell? ⟨d,4,none⟩=some (.bool D.dead):=(cell_of_row w _ 4 _ _ (0,0) h.blk).trans rfl
 clear h hx
 go_enter Tryz.func45,Tryz.ntmps45
 go_wp2
 go_ret
 exact⟨rfl,rfl⟩
theorem Ready.chg{F:Nat->Prop}{w w':World}(h:Ready w)(hc:Chg F w w')(hF:∀ k,F k->1<k):Ready w':=by
 obtain⟨h1,m,h2⟩:=h
 exact⟨hc.cell h1 (fun f=>by have h3:1<0:=hF 0 f;omega),m,hc.cell h2 (fun f=>Nat.lt_irrefl _ (hF _ f))⟩
def Ztf(x d:Nat)(hv sv lv:Value)(k:Nat):Prop:=k=x\/Zb1 d hv sv lv k
structure Held (l:List M.Pk):Prop where
 back:∀ p∈l,M.Zi7 p
 apart:M.Apart l
 size:M.Zbn l<=8192
 few:l.length<=1000
 needs:∀ p∈l,∀ y∈p.needs,y.length<=15
theorem Z23(x d n:Nat)(mask after:Int)(s0 hv sv lv:Value)(D:M.Dk)(Q:List M.Pk->Prop)(w:World)(hR:Ready w)(hx:Zb6 w x d s0)(h:Zai w d hv sv lv D)(h1:16<=n)(h2:n<=256)
 (hlt:∀ p∈D.late,p.1<D.held.length) (hlen:D.late.length<=1000000) (hhl:D.seen.length=n) (hhn:D.held.length=n)
 (hF:∀ k,Ztf x d hv sv lv k->1<k)
 (hL:∀ sel:Nat->Bool,(D.dead=false->∀ i,sel i=true)->∃ qY l,Q l/\Held l/\M.Znh (M.Zbd sel 0 D.late D.held) n qY (M.packed l)):
 Calls Tryz.prog 54 #[.pointer (some ⟨x,0,none⟩),.int .i64 mask,.int .i64 after] w fun e w'=>∃ s k b qY l H,e=.returned okV/\Zb6 w' x d (.pointer (some ⟨s,0,none⟩))/\Zbv w' s k b/\Zao w' k d qY/\Zaw w' b l/\Q l/\Held l/\
  Zai w' d hv sv (.slice none 0 0) { held:=H,seen:=H,late:=[],left:=max after (-1),dead:=false }/\M.Znh H n qY (M.packed l)/\w.heap.size<=s/\w.heap.size<=k/\Chg (Ztf x d hv sv lv) w w':=by
 generalize hA:w.alloc (.cells okC 33)=A
 have hB:Below w.heap.size w A:=by rw[<-hA];exact(Below.refl _ w).alloc ler _
 have hr:A.heap[w.heap.size]? = some (.cells okC 33 (0,0)):=by rw[<-hA];exact heap_alloc_new w _
 have hAs:w.heap.size<A.heap.size:=(ges.1 hr).1
 have hxl:x<w.heap.size:=(ges.1 hx).1
 have hxA:Zb6 A x d s0:=(hB.block x hxl).trans hx
 have hDA:Zai A d hv sv lv D:=h.below hB
 have hft:∀ k,Zb1 d hv sv lv k->k<w.heap.size:=fun k hk=>(h.lt k hk).2
 have hxd:¬ Zb1 d hv sv lv x:=hx.off h
 have q0:=hxA.cell0
 have cB:=Z7w d mask hv sv lv D A hDA hlt hlen (by rw[hhl,hhn]) (by omega)
 have HRd:=hid hR
 have HXA:=hid hxA
 have HRr:=hid hr
 have HL:=hid hL
 clear hr hx h hxA hDA hR hL hlt
 go_enter Tryz.func54,Tryz.ntmps54
 go_wp2_with fail
 refine cB.mono ?_
 rintro e w1 ⟨⟨v1,rfl⟩,sel,hsel,hD1,hC1⟩
 obtain⟨qY,l,hQ,hH,hLies⟩:=HL.out sel hsel
 generalize M.Zbd sel 0 D.late D.held=H at hD1 hLies
 have hx1:Zb6 w1 x d s0:=HXA.out.chg hC1 hxd
 have hft1:∀ k,Zb1 d hv sv (.slice none 0 0) k->Zb1 d hv sv lv k:=fun k hk=>by
  rcases hk with hk|hk|hk|hk
  ·exact .inl hk
  ·exact .inr (.inl hk)
  ·exact .inr (.inr (.inl hk))
  ·cases hk
 have cC:=Zti x d after s0 hv sv _ _ w1 hx1 hD1
 have HX1:=hid hx1
 have HC1:=hid hC1
 clear hD1 hx1 hC1 cB q0 hA hsel HL
 go_wp2_with fail
 refine cC.mono ?_
 rintro e w2 ⟨⟨v2,rfl⟩,hD2,hG2⟩
 have hC2:Chg (Ztf x d hv sv lv) w w2:=(((Chg.below hB).then HC1.out (fun k _ e=>.inr e))).then (Chg.grown (F:=fun k=>k=d) hG2 (fun k e _=>(Option.some.inj e).symm)) (fun k _ e=>.inr (.inl e))
 have hx2:Zb6 w2 x d s0:=HX1.out.chg (Chg.grown (F:=fun k=>k=d) hG2 (fun k e _=>(Option.some.inj e).symm)) (fun e=>hxd (.inl e))
 have cO:=Zzq x d n qY s0 hv sv _ _ l w2 (HRd.out.chg hC2 hF) hx2 hD2 hLies h1 h2 hH.back hH.apart hH.size hH.few hH.needs
 have HD2:Hid (Zai w2 d hv sv (.slice none 0 0) { held:=H,seen:=H,late:=[],left:=max after (-1),dead:=false }/\Chg (Ztf x d hv sv lv) w w2/\Zb6 w2 x d s0/\w2.heap[w.heap.size]? = some (.cells okC 33 (0,0))):=⟨hD2,hC2,hx2,by
  refine(hG2.block _ (Nat.lt_of_lt_of_le hAs HC1.out.size) (fun e=>?_)).trans ((HC1.out.block _ hAs (fun e=>?_)).trans HRr.out)
  ·have:=hft d (.inl rfl)
   have:=Option.some.inj e
   omega
  ·have:=hft _ e
   omega⟩
 clear hD2 hG2 hC2 hx2 cC
 go_wp2_with fail
 refine cO.mono ?_
 rintro e w3 ⟨s,k,b,rfl,t1,t2,t3,t4,t5,t6,hG3⟩
 obtain⟨hD2,hC2,hx2,hr2⟩:=HD2.out
 have hs2:=hC2.size
 have hl2:w.heap.size<w2.heap.size:=(ges.1 hr2).1
 have hc3:Chg (fun k=>k=x) w2 w3:=Chg.grown hG3 (fun k e _=>(Option.some.inj e).symm)
 have hr3:w3.heap[w.heap.size]? = some (.cells okC 33 (0,0)):=(hc3.block _ hl2 (fun e=>by omega)).trans hr2
 obtain⟨z0,z1,z2,z3,zf⟩:=Zcl hr3
 have HT:Hid (Zb6 w3 x d (.pointer (some ⟨s,0,none⟩))/\Zbv w3 s k b/\Zao w3 k d qY/\Zaw w3 b l/\w2.heap.size<=s/\w2.heap.size<=k):=⟨t1,t2,t3,t4,t5,t6⟩
 have HE:Hid (Chg (fun k=>k=x) w2 w3/\w3.heap[w.heap.size]? = some (.cells okC 33 (0,0))):=⟨hc3,hr3⟩
 clear t1 t2 t3 t4 t5 t6 hG3 hD2 hC2 hx2 hr2 hc3 hr3 cO
 go_wp2
 have G:=Zt5 w3 w.heap.size (.int .i64 0) (.int .i64 0) (.int .i64 0) (.string ⟨#[]⟩)
 obtain⟨t1,t2,t3,t4,t5,t6⟩:=HT.out
 obtain⟨hD2,hC2,hx2,hr2⟩:=HD2.out
 obtain⟨hc3,hr3⟩:=HE.out
 have hcG:Chg (fun k=>k=w.heap.size) w3 _:=Chg.grown G (fun k e _=>(Option.some.inj e).symm)
 have nt:Zbm (fun i=>i=w.heap.size) w3:=Zbm.one hr3 (fun s e=>by cases e) (fun a n p e=>by cases e)
 have hD3:Zai w3 d hv sv (.slice none 0 0) { held:=H,seen:=H,late:=[],left:=max after (-1),dead:=false }:=hD2.chg hc3 (fun k e cur fz=>by
  subst e
  unfold Zb6 at hx2
  rw[hx2]
  intro e
  cases e) (fun k hk e=>hxd (by subst e;exact hft1 _ hk))
 refine bodyPost_ret (v:=okV) (by simp[results,Tryz.results54,go_sem,z0,z1,z2,z3]) rfl ⟨s,k,b,qY,l,H,rfl,?_,?_,?_,?_,hQ,hH,?_,hLies,by omega,by omega,?_⟩
 ·exact t1.chg hcG (fun e=>by omega)
 ·exact(hcG.block s (ges.1 t2).1 (fun e=>by omega)).trans t2
 ·exact(hcG.block k (ges.1 t3).1 (fun e=>by omega)).trans t3
 ·exact t4.chg hcG nt hH.needs
 ·exact hD3.chg hcG (fun k e cur fz=>by subst e;rw[hr3];intro e;cases e) (fun k hk e=>by have:=hft _ (hft1 _ hk);omega)
 ·exact(hC2.then hc3 (fun k _ e=>.inl e)).then hcG (fun k hk e=>by omega)
theorem Zzo{l:List M.Pk}{p:M.Pk}:M.Z9y l p↔∃ c∈p.bars,c.name≠p.name/\(l.any fun q=>M.Zc9 c q)=true:=by
 have hfit:∀ {c:M.Ch} {q:M.Pk},M.Zc9 c q=true->c.name=q.name:=fun {c q} h=>by
  unfold M.Zc9 at h
  split at h
  ·assumption
  ·cases h
 unfold M.Z9y M.Zeb
 constructor
 ·rintro ⟨q,hq,hne,h⟩
  obtain⟨c,hc,h⟩:=List.any_eq_true.1 h
  simp only[List.any_cons,List.any_nil,Bool.or_false] at h
  exact⟨c,hc,by rw[hfit h];exact hne,List.any_eq_true.2 ⟨q,hq,h⟩⟩
 ·rintro ⟨c,hc,hne,h⟩
  obtain⟨q,hq,h⟩:=List.any_eq_true.1 h
  exact⟨q,hq,by rw[<-hfit h];exact hne,List.any_eq_true.2 ⟨c,hc,by simpa using h⟩⟩
theorem Zm9(b:Nat)(l:List M.Pk)(w:World)(hl:Zaw w b l)(hn:l.length<=1000000)(hs:∀ p∈l,Zbb p):
 Calls Tryz.prog 234 #[.map (some b)] w fun e w'=>∃ T:ByteArray,e=.returned (.string T)/\T.data.toList=M.Zbg l/\Below w.heap.size w w':=by
 have cN:=fun wx (hb:Below w.heap.size w wx)=>Zis b l wx (hl.below hb) hn
 have HL:=hid hl
 have HA:=hid hl.apart
 have HS:=hid hs
 have HMin:Hid (M.Zbp (fun x=>∃ p∈l,M.Z9y l p/\x=p.name) (M.Zbg l)):=M.Zn2 hl.apart (fun p hp=>(hs p hp).name)
 have HRL:Hid ((M.Zdc (l.map M.Pk.name)).length=l.length):=by show _ = _;rw[(M.Zbh _).length_eq,List.length_map]
 generalize hr:M.Zdc (l.map M.Pk.name)=r at HRL
 have HR:=hid hr
 clear hl hs hr
 go_enter Tryz.func234,Tryz.ntmps234
 go_wp2_with fail
 refine(cN _ (Below.refl _ _)).mono ?_
 rintro e w1 ⟨v,rfl,hrow,hB1⟩
 obtain⟨a1,c1,e1⟩:=Zac hrow
 subst e1
 have HRow:Hid (Zas w1 0 w1.heap.size (.slice a1 l.length c1) l.length (Zaa r)):=by rw[<-HR.out];exact(Zas.own hrow).wide (Nat.zero_le _) ler
 clear cN hrow
 go_wp2
 go_loopw [4,6,10] (fun _ _ i wr=>∃ n:Nat,i=.int .i64 n/\n<=l.length/\Below w1.heap.size w1 wr/\Hid (∀ q∈l,q.name∈r.take n->¬ M.Z9y l q)) (fun _ _ i _=>l.length-(intOf i).toNat)
 case atStart=>exact⟨0,rfl,Nat.zero_le _,Below.refl _ _,fun q _ hq=>by simp at hq⟩
 case round=>
  obtain⟨n,rfl,hn',hBr,HQ⟩:=hrel
  by_cases hlt:n<l.length
  ·have hnr:n<r.length:=by rw[HRL.out];exact hlt
   obtain⟨p,hp,hpn⟩:∃ p∈l,p.name=r[n]:=by
    obtain⟨p,hp,e⟩:=List.mem_map.1 ((M.Zbh (l.map M.Pk.name)).mem_iff.1 (by rw[HR.out];exact List.getElem_mem hnr))
    exact⟨p,hp,e⟩
   obtain⟨g,rfl,hg,hcap,hc⟩:=HRow.out.cellAt (by omega)
   have c0:wr.cell? ⟨g,n,none⟩=some (.string ⟨p.name.toArray⟩):=(hBr.cell (p:=⟨g,n,none⟩) hg).trans (hc n _ (by unfold Zaa;rw[List.getElem?_map,List.getElem?_eq_getElem hnr,hpn];rfl))
   obtain⟨Y,hY⟩:∃ Y:ByteArray,Y=⟨p.name.toArray⟩:=⟨_,rfl⟩
   rw[<-hY] at c0
   have hYd:Y.data.toList=p.name:=by rw[hY]
   have hYs:Y.size<=maxLen:=by have:=(HS.out p hp).short.name;rw[Zcy hYd];unfold maxLen;omega
   have HYd:=hid hYd
   have hnn:=(HS.out p hp).short.bars.1
   have HSp:Hid (Zbb p):=HS.out p hp
   have HNm:Hid (r[n]? = some p.name):=by show _ = _;rw[List.getElem?_eq_getElem hnr,hpn]
   obtain⟨f,hm,hv⟩:=HL.out.below (bt hB1 hBr)
   obtain⟨nv,bv,fv,ev,hN1,hN2,hN3⟩:=hv p hp
   obtain⟨an,cn,en⟩:=hN2.form
   subst en
   have hr1:(Instr.lookup 108 (.map (some b)) (.string Y) false).run Tryz.prog wr=.ok (.agg #[.string ⟨p.name.toArray⟩,.string ⟨p.ver.toArray⟩,nv,.slice an p.bars.length cn,fv]) wr:=by
    rw[hm.look Tryz.underlying9 Zem (Zea wr) hYs,hYd,(Zdg hm.keys).2 (List.mem_map.2 ⟨p,hp,rfl⟩),Option.getD_some,ev]
   have HN:=hid hN2
   clear hm hv ev hN1 hN2 hN3 hY hYd hc hpn
   obtain⟨W0,hW0⟩:∃ W,W=wr:=⟨_,rfl⟩
   subst hW0
   have hfd:=Z1l
   go_wp2
   clear hfd
   go_loopw [6,19] (fun _ i wr=>∃ j:Nat,i=.int .i64 j/\j<=p.bars.length/\Below W0.heap.size W0 wr/\Hid (∀ c∈p.bars.take j,¬ (c.name≠p.name/\(l.any fun q=>M.Zc9 c q)=true))) (fun _ i _=>p.bars.length-(intOf i).toNat)
   case atStart=>exact⟨0,rfl,Nat.zero_le _,Below.refl _ _,fun c hc=>by simp at hc⟩
   case round=>
    obtain⟨j,rfl,hj',hBj,HC⟩:=hrel
    by_cases hlj:j<p.bars.length
    ·obtain⟨bg,rfl,hbg,hcapg,hcg⟩:=HN.out.cellAt (by omega)
     obtain⟨k0,k1,k2⟩:=Zi0 hlj
     obtain⟨X,hX⟩:∃ X:ByteArray,X=⟨p.bars[j].name.toArray⟩:=⟨_,rfl⟩
     have q0:wr.cell? ⟨bg,j*3,none⟩=some (.string X):=by rw[hX];exact(hBj.cell (p:=⟨bg,j*3,none⟩) hbg).trans (hcg _ _ k0)
     have q1:wr.cell? ⟨bg,j*3+1,none⟩=some (.string ⟨p.bars[j].sign.toArray⟩):=(hBj.cell (p:=⟨bg,j*3+1,none⟩) hbg).trans (hcg _ _ k1)
     have q2:wr.cell? ⟨bg,j*3+2,none⟩=some (.string ⟨p.bars[j].ver.toArray⟩):=(hBj.cell (p:=⟨bg,j*3+2,none⟩) hbg).trans (hcg _ _ k2)
     have HX:Hid (X.data.toList=p.bars[j].name):=by show _ = _;rw[hX]
     have hsc:=HSp.out.short.bars.2 _ (List.getElem_mem hlj)
     have hBw:Below w.heap.size w wr:=bt hB1 (bt hBr hBj)
     have cH:=fun wx (hb:Below wr.heap.size wr wx)=>Ztw b l p.bars[j] wx (HL.out.below (bt hBw hb)) (fun q hq=>(HS.out q hq).smallQ.1) (HSp.out.good.bars _ (List.getElem_mem hlj)) (by omega) (by omega)
     rw[<-hX] at cH
     have HBa:Hid (Below wr.heap.size wr (wr.alloc (.cells #[.string X,.string ⟨p.bars[j].sign.toArray⟩,.string ⟨p.bars[j].ver.toArray⟩] 140))):=(Below.refl _ wr).alloc ler _
     clear hcg k0 k1 k2 hsc hX
     by_cases hm:(X.toList == Y.toList)=true
     ·have HC2:Hid (∀ c∈p.bars.take (j+1),¬ (c.name≠p.name/\(l.any fun q=>M.Zc9 c q)=true)):=fun c hc=>by
       rw[List.take_succ_eq_append_getElem hlj] at hc
       rcases List.mem_append.1 hc with hc|hc
       ·exact HC.out c hc
       ·simp at hc
        subst hc
        rintro ⟨hne,_⟩
        rw[Lib.toList_data,Lib.toList_data,beq_iff_eq,HX.out,HYd.out] at hm
        exact hne hm
      have hB7:Below W0.heap.size W0 (wr.alloc (.cells #[.string X,.string ⟨p.bars[j].sign.toArray⟩,.string ⟨p.bars[j].ver.toArray⟩] 140)):=bt hBj HBa.out
      clear cH
      go_wp2
      go_roundw
      case rel=>exact⟨j+1,by go_num,by omega,hB7,HC2⟩
      case measure=>simp[intOf];omega
     ·replace hm:(X.toList == Y.toList)=false:=by simpa using hm
      go_wp2_with fail
      refine(cH _ HBa.out).mono ?_
      rintro e w5 ⟨rfl,hB5⟩
      have hB6:Below wr.heap.size wr w5:=bt HBa.out hB5
      have HNe:Hid (p.bars[j].name≠p.name):=by
       rw[Lib.toList_data,Lib.toList_data,beq_eq_false_iff_ne,HX.out,HYd.out] at hm
       exact hm
      clear cH HBa hB5
      cases hB:(l.any fun q=>M.Zc9 p.bars[j] q) with
      | true=>
       have HLk:Hid (M.Zbg l=p.name):=Zrm HA.out HMin.out hp (by rw[HR.out];exact HNm.out) (Zzo.2 ⟨_,List.getElem_mem hlj,HNe.out,hB⟩) (by rw[HR.out];exact HQ.out)
       have hB7:Below w.heap.size w w5:=bt hBw hB6
       clear hB
       go_wp2
       go_ret
       exact⟨Y,rfl,by rw[HLk.out];exact HYd.out,hB7⟩
      | false=>
       have HC2:Hid (∀ c∈p.bars.take (j+1),¬ (c.name≠p.name/\(l.any fun q=>M.Zc9 c q)=true)):=fun c hc=>by
        rw[List.take_succ_eq_append_getElem hlj] at hc
        rcases List.mem_append.1 hc with hc|hc
        ·exact HC.out c hc
        ·simp at hc
         subst hc
         rintro ⟨_,h⟩
         rw[hB] at h
         cases h
       have hB7:Below W0.heap.size W0 w5:=bt hBj hB6
       clear hB
       go_wp2
       go_roundw
       case rel=>exact⟨j+1,by go_num,by omega,hB7,HC2⟩
       case measure=>simp[intOf];omega
    ·have hmm:j=p.bars.length:=by omega
     have HQ2:Hid (∀ q∈l,q.name∈r.take (n+1)->¬ M.Z9y l q):=fun q hq hqn=>by
      rw[List.take_succ_eq_append_getElem hnr] at hqn
      rcases List.mem_append.1 hqn with hqn|hqn
      ·exact HQ.out q hq hqn
      ·simp at hqn
       have e:q=p:=HA.out.eq hq hp (by
        have:=HNm.out
        rw[List.getElem?_eq_getElem hnr] at this
        rw[hqn]
        exact Option.some.inj this)
       subst e
       intro hb
       obtain⟨c,hc,h⟩:=Zzo.1 hb
       exact HC.out c (by rw[hmm,List.take_length];exact hc) h
     have hB7:Below w1.heap.size w1 wr:=bt hBr hBj
     clear hmm
     go_wp2
     go_roundw
     case rel=>exact⟨n+1,by go_num,by omega,hB7,HQ2⟩
     case measure=>simp[intOf];omega
  ·have hnn:n=l.length:=by omega
   have HE:Hid (M.Zbg l=[]):=by
    refine Z42 HMin.out (fun q hq hqn=>HQ.out q hq ?_)
    rw[hnn,<-HRL.out,List.take_length,<-HR.out]
    exact hqn
   have hBw:Below w.heap.size w wr:=bt hB1 hBr
   clear hnn
   go_wp2
   go_ret
   exact⟨⟨#[]⟩,rfl,by rw[HE.out],hBw⟩
end Go.Proofs.YtgnfknjopafngabGreatDoor
