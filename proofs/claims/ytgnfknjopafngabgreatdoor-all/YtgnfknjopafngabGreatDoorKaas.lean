import Derived.Test.YtgnfknjopafngabGreatDoorKaar
set_option maxRecDepth 100000
set_option maxHeartbeats 8000000
namespace Go.Proofs.YtgnfknjopafngabGreatDoor
open Go.RowKit Go.Maps
def Live(W:World)(F:Nat->Prop)(x n:Nat)(D:M.Dk)(l:List M.Pk):Prop:=∃ d s k b qY hv sv lv,Zde W x d s k b qY n hv sv lv D l/\∀ j,F j↔Zpr x d s k hv sv lv j
def Gone(W:World)(F:Nat->Prop)(x n:Nat)(Q:List M.Pk->Prop):Prop:=∃ d s0 hv sv lv D,D.dead=true/\Dn W x d n s0 hv sv lv D Q/\∀ j,F j↔Ztf x d hv sv lv j
abbrev Ycg(t:TypeId):Prop:=t=61\/t=110\/t=229\/t=101\/t=102\/t=246
theorem Live.ty{W:World}{F:Nat->Prop}{x n:Nat}{D:M.Dk}{l:List M.Pk}(h:Live W F x n D l){j:Nat}(hj:F j):∃ c t,W.heap[j]? = some (.cells c t (0,0))/\Ycg t:=by
 obtain⟨d,s,k,b,qY,hv,sv,lv,h1,h2⟩:=h
 rcases(h2 j).1 hj with rfl|rfl|rfl|hj
 ·exact⟨_,_,h1.sess,.inl rfl⟩
 ·exact⟨_,_,h1.store,.inr (.inl rfl)⟩
 ·exact⟨_,_,h1.known,.inr (.inr (.inl rfl))⟩
 ·obtain⟨c,t,e,ht⟩:=h1.disk.ty hj
  refine⟨c,t,e,?_⟩
  rcases ht with e|e|e
  ·exact .inr (.inr (.inr (.inl e)))
  ·exact .inr (.inr (.inr (.inr (.inl e))))
  ·exact .inr (.inr (.inr (.inr (.inr e))))
theorem Gone.ty{W:World}{F:Nat->Prop}{x n:Nat}{Q:List M.Pk->Prop}(h:Gone W F x n Q){j:Nat}(hj:F j):∃ c t,W.heap[j]? = some (.cells c t (0,0))/\Ycg t:=by
 obtain⟨d,s0,hv,sv,lv,D,h0,h1,h2⟩:=h
 rcases(h2 j).1 hj with rfl|hj
 ·exact⟨_,_,h1.sess,.inl rfl⟩
 ·obtain⟨c,t,e,ht⟩:=h1.disk.ty hj
  refine⟨c,t,e,?_⟩
  rcases ht with e|e|e
  ·exact .inr (.inr (.inr (.inl e)))
  ·exact .inr (.inr (.inr (.inr (.inl e))))
  ·exact .inr (.inr (.inr (.inr (.inr e))))
theorem Live.chg{W W':World}{F G:Nat->Prop}{x n:Nat}{D:M.Dk}{l:List M.Pk}(h:Live W F x n D l)(hc:Chg G W W')(ht:Zbm G W)(hu:Ztd G W)(hh:∀ j,G j->1<j)(hd:∀ j,F j->¬ G j):Live W' F x n D l:=by
 obtain⟨d,s,k,b,qY,hv,sv,lv,h1,h3⟩:=h
 have hd':∀ j,Zpr x d s k hv sv lv j->¬ G j:=fun j hj=>hd j ((h3 j).2 hj)
 refine⟨d,s,k,b,qY,hv,sv,lv,⟨h1.ready.chg hc hh,h1.sess.chg hc (hd' x (.inl rfl)),?_,?_,h1.disk.chg hc hu (fun j hj=>hd' j (.inr (.inr (.inr hj)))),h1.set.chg hc ht (fun p hp=>(h1.tog.back p hp).few),h1.n1,h1.n2,h1.ho,h1.rest,h1.left,h1.tog,h1.room,h1.high⟩,h3⟩
 ·exact(hc.block s (ges.1 h1.store).1 (hd' s (.inr (.inl rfl)))).trans h1.store
 ·exact(hc.block k (ges.1 h1.known).1 (hd' k (.inr (.inr (.inl rfl))))).trans h1.known
theorem Gone.chg{W W':World}{F G:Nat->Prop}{x n:Nat}{Q:List M.Pk->Prop}(h:Gone W F x n Q)(hc:Chg G W W')(hu:Ztd G W)(hh:∀ j,G j->1<j)(hd:∀ j,F j->¬ G j):Gone W' F x n Q:=by
 obtain⟨d,s0,hv,sv,lv,D,h0,h1,h3⟩:=h
 have hd':∀ j,Ztf x d hv sv lv j->¬ G j:=fun j hj=>hd j ((h3 j).2 hj)
 exact⟨d,s0,hv,sv,lv,D,h0,{ h1 with ready:=h1.ready.chg hc hh,sess:=h1.sess.chg hc (hd' x (.inl rfl)),disk:=h1.disk.chg hc hu (fun j hj=>hd' j (.inr hj)) },h3⟩
theorem Live.below{W W':World}{F:Nat->Prop}{x n:Nat}{D:M.Dk}{l:List M.Pk}(h:Live W F x n D l)(hb:Below W.heap.size W W'):Live W' F x n D l:=by
 obtain⟨d,s,k,b,qY,hv,sv,lv,h1,h3⟩:=h
 exact⟨d,s,k,b,qY,hv,sv,lv,h1.below hb,h3⟩
theorem Gone.below{W W':World}{F:Nat->Prop}{x n:Nat}{Q:List M.Pk->Prop}(h:Gone W F x n Q)(hb:Below W.heap.size W W'):Gone W' F x n Q:=by
 obtain⟨d,s0,hv,sv,lv,D,h0,h1,h3⟩:=h
 exact⟨d,s0,hv,sv,lv,D,h0,h1.below hb,h3⟩
def Ztp(K:Prop)(W:World)(F:Nat->Prop)(x n:Nat)(qQ orl:List M.Pk)(qK:Bool):Prop:=(qK=false/\∃ D,(K->M.Zfl D)/\Live W F x n D qQ)\/(¬ K/\Gone W F x n (fun m=>m=qQ\/(qK=true/\m=orl)))
theorem Ztp.ty{K:Prop}{W:World}{F:Nat->Prop}{x n:Nat}{qQ orl:List M.Pk}{qK:Bool}(h:Ztp K W F x n qQ orl qK){j:Nat}(hj:F j):∃ c t,W.heap[j]? = some (.cells c t (0,0))/\Ycg t:=by
 rcases h with ⟨_,D,_,h⟩|⟨_,h⟩
 ·exact h.ty hj
 ·exact h.ty hj
theorem Ztp.off{K:Prop}{W:World}{F:Nat->Prop}{x n:Nat}{qQ orl:List M.Pk}{qK:Bool}(h:Ztp K W F x n qQ orl qK){j:Nat}{c:Array Value}{t:TypeId}{f:Nat × Nat}(hj:W.heap[j]? = some (.cells c t f))(ht:¬ Ycg t):¬ F j:=fun e=>by
 obtain⟨c',t',e',ht'⟩:=h.ty e
 rw[hj] at e'
 cases e'
 exact ht ht'
theorem Ztp.below{K:Prop}{W W':World}{F:Nat->Prop}{x n:Nat}{qQ orl:List M.Pk}{qK:Bool}(h:Ztp K W F x n qQ orl qK)(hb:Below W.heap.size W W'):Ztp K W' F x n qQ orl qK:=by
 rcases h with ⟨h0,D,hk,h⟩|⟨hk,h⟩
 ·exact .inl ⟨h0,D,hk,h.below hb⟩
 ·exact .inr ⟨hk,h.below hb⟩
theorem Ztp.chg{K:Prop}{W W':World}{F G:Nat->Prop}{x n:Nat}{qQ orl:List M.Pk}{qK:Bool}(h:Ztp K W F x n qQ orl qK)(hc:Chg G W W')(ht:Zbm G W)(hu:Ztd G W)(hh:∀ j,G j->1<j)(hd:∀ j,F j->¬ G j):Ztp K W' F x n qQ orl qK:=by
 rcases h with ⟨h0,D,hk,h⟩|⟨hk,h⟩
 ·exact .inl ⟨h0,D,hk,h.chg hc ht hu hh hd⟩
 ·exact .inr ⟨hk,h.chg hc hu hh hd⟩
structure Lr (K:Prop) (W:World) (B x n:Nat) (F:Nat->Prop) (tv ov:Value) (qQ orl:List M.Pk) (qK:Bool):Prop where
 se:Ztp K W F x n qQ orl qK
 tp:Zbc W tv qQ
 tt:Zjt W tv qQ
 op:Zbc W ov orl
 ot:Zjt W ov orl
 tog:M.Tog qQ
 room:(M.Zbn qQ:Int)<=24*((n:Int)-8)
 togo:M.Tog orl
 roomo:(M.Zbn orl:Int)<=24*((n:Int)-8)
 n1:16<=n
 n2:n<=256
 FB:∀ j,F j->B<=j
theorem Lr.below{K:Prop}{W W':World}{B x n:Nat}{F:Nat->Prop}{tv ov:Value}{qQ orl:List M.Pk}{qK:Bool}(h:Lr K W B x n F tv ov qQ orl qK)(hb:Below W.heap.size W W'):Lr K W' B x n F tv ov qQ orl qK:=
 { h with se:=h.se.below hb,tp:=h.tp.below hb,tt:=h.tt.below hb,op:=h.op.below hb,ot:=h.ot.below hb }
theorem Lr.chg{K:Prop}{W W':World}{B x n:Nat}{F G:Nat->Prop}{tv ov:Value}{qQ orl:List M.Pk}{qK:Bool}(h:Lr K W B x n F tv ov qQ orl qK)(hc:Chg G W W')(ht:Zbm G W)(hu:Ztd G W)(hh:∀ j,G j->1<j)(hd:∀ j,F j->¬ G j):Lr K W' B x n F tv ov qQ orl qK:=
 { h with
   se:=h.se.chg hc ht hu hh hd
   tp:=h.tp.chg h.tt hc ht (fun p hp=>(h.tog.back p hp).few)
   tt:=h.tt.chg hc ht
   op:=h.op.chg h.ot hc ht (fun p hp=>(h.togo.back p hp).few)
   ot:=h.ot.chg hc ht }
def wC(x n:Nat)(tv ov:Value)(qK:Bool)(hv:Value):Array Value:=#[.pointer (some ⟨x,0,none⟩),.int .i64 n,tv,ov,.bool qK,hv]
structure Lw (K:Prop) (W:World) (B wb x n:Nat) (F:Nat->Prop) (tv ov hv:Value) (qQ orl:List M.Pk) (qK:Bool) (qJ:List ByteArray):Prop extends Lr K W B x n F tv ov qQ orl qK where
 blk:W.heap[wb]? = some (.cells (wC x n tv ov qK hv) 78 (0,0))
 own:W.ownsRow B 9 1 hv qJ.length (qJ.map Value.string)
 hz:qJ.length=0->hv=.slice none 0 0
 wB:B<=wb
 hi:1<B
theorem Lw.below{K:Prop}{W W':World}{B wb x n:Nat}{F:Nat->Prop}{tv ov hv:Value}{qQ orl:List M.Pk}{qK:Bool}{qJ:List ByteArray}(h:Lw K W B wb x n F tv ov hv qQ orl qK qJ)(hb:Below W.heap.size W W'):Lw K W' B wb x n F tv ov hv qQ orl qK qJ:=
 { toLr:=h.toLr.below hb
   blk:=(hb.block _ (ges.1 h.blk).1).trans h.blk
   own:=own_below h.own hb
   hz:=h.hz
   wB:=h.wB
   hi:=h.hi }
theorem Lw.lt{K:Prop}{W:World}{B wb x n:Nat}{F:Nat->Prop}{tv ov hv:Value}{qQ orl:List M.Pk}{qK:Bool}{qJ:List ByteArray}(h:Lw K W B wb x n F tv ov hv qQ orl qK qJ):wb<W.heap.size:=(ges.1 h.blk).1
theorem Lw.cells{K:Prop}{W:World}{B wb x n:Nat}{F:Nat->Prop}{tv ov hv:Value}{qQ orl:List M.Pk}{qK:Bool}{qJ:List ByteArray}(h:Lw K W B wb x n F tv ov hv qQ orl qK qJ):
 W.cell? ⟨wb,0,none⟩=some (.pointer (some ⟨x,0,none⟩))/\W.cell? ⟨wb,1,none⟩=some (.int .i64 n)/\W.cell? ⟨wb,2,none⟩=some tv/\W.cell? ⟨wb,3,none⟩=some ov/\W.cell? ⟨wb,4,none⟩=some (.bool qK)/\W.cell? ⟨wb,5,none⟩=some hv/\∀ o,W.frozen? ⟨wb,o,none⟩=false:=
 ⟨(cell_of_row W _ 0 _ _ (0,0) h.blk).trans rfl,(cell_of_row W _ 1 _ _ (0,0) h.blk).trans rfl,(cell_of_row W _ 2 _ _ (0,0) h.blk).trans rfl,(cell_of_row W _ 3 _ _ (0,0) h.blk).trans rfl,(cell_of_row W _ 4 _ _ (0,0) h.blk).trans rfl,(cell_of_row W _ 5 _ _ (0,0) h.blk).trans rfl,fun o=>frozen_of_row W _ o _ _ h.blk⟩
theorem Lr.wb{K:Prop}{W:World}{B wb x n:Nat}{F:Nat->Prop}{tv ov:Value}{qQ orl:List M.Pk}{qK:Bool}{c:Array Value}(h:Lr K W B x n F tv ov qQ orl qK)(hb:W.heap[wb]? = some (.cells c 78 (0,0)))(h0:c[0]? = some (.pointer (some ⟨x,0,none⟩)))(hhi:1<wb)(o:Nat)(v:Value):Lr K (W.setCell ⟨wb,o,none⟩ v) B x n F tv ov qQ orl qK:=by
 have hc:Chg (fun j=>j=wb) W (W.setCell ⟨wb,o,none⟩ v):=Chg.grown (Zax W wb o v) (fun i e _=>(Option.some.inj e).symm)
 have hce:W.cell? ⟨wb,0,none⟩=some (.pointer (some ⟨x,0,none⟩)):=(cell_of_row W _ 0 _ _ (0,0) hb).trans h0
 refine h.chg hc (Zbm.one hb (fun s e=>?_) (fun a m p e=>?_)) (Zjn hb (by decide)) (fun j e=>by rw[e];exact hhi) (fun j hj e=>?_)
 ·rw[h0] at e;cases e
 ·rw[h0] at e;cases e
 ·subst e
  exact h.se.off hb (by decide) hj
theorem Live.lost{W:World}{F:Nat->Prop}{x n:Nat}{D:M.Dk}{l:List M.Pk}(h:Live W F x n D l):Calls Tryz.prog 45 #[.pointer (some ⟨x,0,none⟩)] W fun e w'=>e=.returned (.bool false)/\W=w':=by
 obtain⟨d,s,k,b,qY,hv,sv,lv,h1,h2⟩:=h
 refine(Zvl x d _ hv sv lv D W h1.sess h1.disk).mono ?_
 rintro e w' ⟨rfl,e2⟩
 exact⟨by rw[h1.rest.alive],e2.symm⟩
theorem Gone.lost{W:World}{F:Nat->Prop}{x n:Nat}{Q:List M.Pk->Prop}(h:Gone W F x n Q):Calls Tryz.prog 45 #[.pointer (some ⟨x,0,none⟩)] W fun e w'=>e=.returned (.bool true)/\W=w':=by
 obtain⟨d,s0,hv,sv,lv,D,h0,h1,h2⟩:=h
 refine(Zvl x d _ hv sv lv D W h1.sess h1.disk).mono ?_
 rintro e w' ⟨rfl,e2⟩
 exact⟨by rw[h0],e2.symm⟩
theorem Ztp.lost{K:Prop}{W:World}{F:Nat->Prop}{x n:Nat}{qQ orl:List M.Pk}{qK:Bool}(h:Ztp K W F x n qQ orl qK):∃ b,Calls Tryz.prog 45 #[.pointer (some ⟨x,0,none⟩)] W fun e w'=>e=.returned (.bool b)/\W=w':=by
 rcases h with ⟨_,D,_,h⟩|⟨_,h⟩
 ·exact⟨false,h.lost⟩
 ·exact⟨true,h.lost⟩
theorem Lw.more{K:Prop}{W:World}{B wb x n:Nat}{F:Nat->Prop}{tv ov hv:Value}{qQ orl:List M.Pk}{qK:Bool}{qJ:List ByteArray}(h:Lw K W B wb x n F tv ov hv qQ orl qK qJ)(S:ByteArray)(ty:TypeId)(hn:qJ.length<=1000000):
 ∃ a c w',(Builtin.append_ #[41,41] ty #[hv,.slice (some ⟨W.heap.size,0,none⟩) 1 1]).run Tryz.prog (W.alloc (.cells #[.string S] 9)).drew=.ok (.slice a (qJ.length+1) c) w'/\
  w'.heap[wb]? = some (.cells (wC x n tv ov qK hv) 78 (0,0))/\
  Lw K (w'.setCell ⟨wb,5,none⟩ (.slice a (qJ.length+1) c)) B wb x n F tv ov (.slice a (qJ.length+1) c) qQ orl qK (qJ++[S])/\Below B W (w'.setCell ⟨wb,5,none⟩ (.slice a (qJ.length+1) c)):=by
 obtain⟨i0,hi0,hz0,hz1,hz2⟩:=info_parts Zco
 obtain⟨A,hA⟩:∃ A,A=(W.alloc (.cells #[.string S] 9)).drew:=⟨_,rfl⟩
 have hBA:Below W.heap.size W A:=by rw[hA];exact bt ((Below.refl _ W).alloc ler _) (Zae _ 1)
 have hc:A.cell? ⟨W.heap.size,0,none⟩=some (.string S):=by rw[hA];exact Zbk W [.string S] 9 0 _ rfl
 have h1:=h.below hBA
 rw[<-hA]
 have hsA:=h1.lt
 have hBW:B<=W.heap.size:=by have:=h.lt;have:=h.wB;omega
 obtain⟨v',w',hrun,r1,r2,_⟩:=run_append_own (P:=Tryz.prog) A B 41 ty 9 i0 (.string ⟨#[]⟩) 1 16 Tryz.underlying41 hi0 hz0 hz1 hz2 rfl (by decide) hv qJ.length (qJ.map Value.string) h1.own ⟨W.heap.size,0,none⟩ 1 1 [.string S] rfl (fun j y hy=>by
  match j,hy with
  | 0,hy=>cases hy;rw[Addr.add_lit];exact hc) (fun u hu=>by simp only[List.mem_singleton] at hu;subst hu;rfl) (by unfold maxLen;omega) (by omega) (by have:=hBA.size;omega)
 obtain⟨a,c,e⟩:=Zac r1
 subst e
 have hcA:Chg (fun k=>hv.ownBlock=some k) A w':=Chg.grown r2 (fun k e _=>e)
 have hstr:∀ j,hv.ownBlock=some j->∃ cu f,A.heap[j]? = some (.cells cu 9 f):=fun j hj=>by
  by_cases hm:qJ.length=0
  ·rw[h.hz hm] at hj;cases hj
  ·obtain⟨g,cap,cur,e,hg',_,hb'⟩:=Zc8 h1.own (by omega)
   rw[hb'] at hj
   cases hj
   exact⟨_,_,hg'⟩
 have hnt:Zbm (fun k=>hv.ownBlock=some k) A:=by
  by_cases hm:qJ.length=0
  ·intro j hj
   rw[h.hz hm] at hj
   cases hj
  ·refine Zbm.strs h1.own (fun u hu=>?_) (by omega)
   obtain⟨s,_,rfl⟩:=List.mem_map.1 hu
   exact⟨s,rfl⟩
 have hoff:∀ j {cu:Array Value} {t:TypeId} {f:Nat × Nat},A.heap[j]? = some (.cells cu t f)->t≠9->hv.ownBlock≠some j:=fun j cu t f hj ht e=>by
  obtain⟨cu2,f2,e2⟩:=hstr j e
  exact Zfx hj e2 ht rfl
 have e1:w'.heap[wb]? = some (.cells (wC x n tv ov qK hv) 78 (0,0)):=(r2.block _ hsA (fun e=>hoff wb h1.blk (by decide) e.symm)).trans h1.blk
 have hLr:Lr K w' B x n F tv ov qQ orl qK:=h1.toLr.chg hcA hnt (fun j hj cur fz e=>by
  obtain⟨cu2,f2,e2⟩:=hstr j hj
  rw[e] at e2
  cases e2) (fun j hj=>by have:=(h1.own.lt j hj).1;have:=h.hi;omega) (fun j hj e=>by
  obtain⟨cu2,f2,e2⟩:=hstr j e
  exact h1.se.off e2 (by decide) hj)
 have hwhi:1<wb:=by have:=h.hi;have:=h.wB;omega
 have hcW:Chg (fun j=>j=wb) w' (w'.setCell ⟨wb,5,none⟩ (.slice a (qJ.length+1) c)):=Chg.grown (Zax w' wb 5 _) (fun i e _=>(Option.some.inj e).symm)
 refine⟨a,c,w',hrun,e1,⟨hLr.wb e1 rfl hwhi 5 _,heap_setCell_same w' _ 5 _ _ _ e1,?_,fun e=>by simp at e,h.wB,h.hi⟩,?_⟩
 ·have:=hcW.own r1 (fun g hg e=>by
   obtain⟨g2,cap,cur,e3,hg',_,hb'⟩:=Zc8 r1 (by omega)
   rw[hb'] at hg
   cases hg
   exact Zfx hg' e1 (by decide) e)
  rw[List.map_append,List.length_append]
  exact this
 ·refine⟨hcW.os.trans (r2.os.trans hBA.os),hcW.tape.trans (r2.tape.trans hBA.tape),hcW.output.trans (r2.output.trans hBA.output),Nat.le_trans hBA.size (Nat.le_trans r2.size hcW.size),fun k hk=>?_⟩
  have hkw:k≠wb:=by have:=h.wB;omega
  exact(hcW.block k (by have:=r2.size;have:=hBA.size;omega) hkw).trans ((r2.block k (by have:=hBA.size;omega) (fun e=>by have:=(h1.own.lt _ e.symm).1;omega)).trans (hBA.block k (by omega)))
def Zh9(K:Prop)(W:World)(B wb x n:Nat)(qJ:List ByteArray)(e:Ending)(w':World):Prop:=e=.returned (.bool true)/\Below B W w'/\∃ F tv ov hv qQ orl qK,Lw K w' B wb x n F tv ov hv qQ orl qK qJ
theorem Z25{K:Prop}{w:World}{B wb x n:Nat}{F:Nat->Prop}{tv ov hv:Value}{qQ orl:List M.Pk}{qK:Bool}{qJ:List ByteArray}(h:Lw K w B wb x n F tv ov hv qQ orl qK qJ)(A B':Int)(S:ByteArray)(hn:qJ.length<=1000000):
 Calls Tryz.prog 29 #[.pointer (some ⟨wb,0,none⟩),.agg #[.int .i64 1,.int .i64 A,.int .i64 B',.string S]] w (Zh9 K w B wb x n (qJ++[S])):=by
 generalize hA:w.alloc (.cells #[.int .i64 1,.int .i64 A,.int .i64 B',.string S] 80)=A0
 have hB0:Below w.heap.size w A0:=by rw[<-hA];exact(Below.refl _ w).alloc ler _
 have hb0:A0.heap[w.heap.size]? = some (.cells #[.int .i64 1,.int .i64 A,.int .i64 B',.string S] 80 (0,0)):=by rw[<-hA];exact heap_alloc_new w _
 have o0:A0.cell? ⟨w.heap.size,0,none⟩=some (.int .i64 1):=(cell_of_row A0 _ 0 _ _ (0,0) hb0).trans rfl
 have o3:A0.cell? ⟨w.heap.size,3,none⟩=some (.string S):=(cell_of_row A0 _ 3 _ _ (0,0) hb0).trans rfl
 have h0:=h.below hB0
 obtain⟨c0,-,-,-,-,c5,-⟩:=h0.cells
 obtain⟨lb,cL⟩:=h0.se.lost
 obtain⟨a1,e1,w1,hr1,hk1,hq1,hB1⟩:=h0.more S 41 hn
 have d1:w1.cell? ⟨wb,5,none⟩=some hv:=(cell_of_row w1 _ 5 _ _ (0,0) hk1).trans rfl
 have f1:w1.frozen? ⟨wb,5,none⟩=false:=frozen_of_row w1 _ _ _ _ hk1
 have hlt:=h0.lt
 have c5':(A0.alloc (.cells #[.string S] 9)).cell? ⟨wb,5,none⟩=some hv:=(World.cell?_alloc_past _ _ _ hlt).trans c5
 have hBw:B<=w.heap.size:=by have:=h.lt;have:=h.wB;omega
 obtain⟨ah,ch,eh⟩:=Zac h0.own
 subst eh
 have HR:=hid hr1
 have HQ:=hid hq1
 have HB:Hid (Below B w (w1.setCell ⟨wb,5,none⟩ (.slice a1 (qJ.length+1) e1))):=(hB0.mono hBw).trans hB1
 clear hb0 hr1 hq1 hk1 h h0 hB0 hB1
 go_enter Tryz.func29,Tryz.ntmps29
 go_wp2_with (first
  | (go_at_call 45;refine cL.mono ?_;rintro e w' ⟨rfl,rfl⟩)
  | go_in)
 go_region_law (refine Zen rfl (.tmp 33) (.tmp 36) 41 rfl _ _ _ _ (by simp[Act.eval]) (by simp[Act.eval]) HR.out ?_)
 all_goals
  go_wp2
  go_ret
  exact⟨rfl,HB.out,_,_,_,_,_,_,_,HQ.out⟩
theorem Zyb{K:Prop}{w:World}{B wb x n:Nat}{F:Nat->Prop}{tv ov hv:Value}{qQ orl:List M.Pk}{qK:Bool}{qJ:List ByteArray}(h:Lw K w B wb x n F tv ov hv qQ orl qK qJ)(A B':Int)(S:ByteArray):
 Calls Tryz.prog 29 #[.pointer (some ⟨wb,0,none⟩),.agg #[.int .i64 2,.int .i64 A,.int .i64 B',.string S]] w (Zh9 K w B wb x n []):=by
 generalize hA:w.alloc (.cells #[.int .i64 2,.int .i64 A,.int .i64 B',.string S] 80)=A0
 have hB0:Below w.heap.size w A0:=by rw[<-hA];exact(Below.refl _ w).alloc ler _
 have hb0:A0.heap[w.heap.size]? = some (.cells #[.int .i64 2,.int .i64 A,.int .i64 B',.string S] 80 (0,0)):=by rw[<-hA];exact heap_alloc_new w _
 have o0:A0.cell? ⟨w.heap.size,0,none⟩=some (.int .i64 2):=(cell_of_row A0 _ 0 _ _ (0,0) hb0).trans rfl
 have h0:=h.below hB0
 obtain⟨c0,-,-,-,-,c5,f5⟩:=h0.cells
 obtain⟨lb,cL⟩:=h0.se.lost
 have hBw:B<=w.heap.size:=by have:=h.lt;have:=h.wB;omega
 have hwhi:1<wb:=by have:=h.hi;have:=h.wB;omega
 have HQ:Hid (Lw K (A0.setCell ⟨wb,5,none⟩ (.slice none 0 0)) B wb x n F tv ov (.slice none 0 0) qQ orl qK []):=
  ⟨h0.toLr.wb h0.blk rfl hwhi 5 _,heap_setCell_same A0 _ 5 _ _ _ h0.blk,World.ownsRow_nil _ _ _ _,fun _=>rfl,h.wB,h.hi⟩
 have HB:Hid (Below B w (A0.setCell ⟨wb,5,none⟩ (.slice none 0 0))):=(hB0.mono hBw).setCell h.wB _
 clear hb0 h h0 hB0
 go_enter Tryz.func29,Tryz.ntmps29
 go_wp2_with (first
  | (go_at_call 45;refine cL.mono ?_;rintro e w' ⟨rfl,rfl⟩)
  | go_in)
 go_ret
 exact⟨rfl,HB.out,_,_,_,_,_,_,_,HQ.out⟩
def Zhq(p:M.Pk)(P:List UInt8):Bool:=p.files.any fun f=>f.path == P
theorem Z4a{l:List M.Pk}{P:List UInt8}{n:Nat}(hn:n<l.length)(h:Zhq l[n] P=true)(ha:∀ p∈l.take n,Zhq p P=false):M.Zfb l P=l[n].name:=by
 unfold M.Zfb
 have e:l.find? (fun p=>p.files.any fun f=>f.path == P)=some l[n]:=by
  rw[List.find?_eq_some_iff_getElem]
  refine⟨h,n,hn,rfl,fun j hj=>?_⟩
  have:=ha (l[j]'(by omega)) (by rw[List.mem_take_iff_getElem];exact⟨j,by omega,rfl⟩)
  unfold Zhq at this
  rw[this]
  rfl
 rw[e]
theorem owner_none{l:List M.Pk}{P:List UInt8}(ha:∀ p∈l,Zhq p P=false):M.Zfb l P=[]:=by
 unfold M.Zfb
 have e:l.find? (fun p=>p.files.any fun f=>f.path == P)=none:=by
  rw[List.find?_eq_none]
  intro p hp
  have:=ha p hp
  unfold Zhq at this
  rw[this]
  simp
 rw[e]
theorem Z5h(lv:Value)(l:List M.Pk)(P:ByteArray)(w:World)(hl:Zbc w lv l)(hln:l.length<=1000000)(hs:∀ p∈l,Zdk p):
 Calls Tryz.prog 51 #[lv,.string P] w fun e w'=>∃ T:ByteArray,e=.returned (.string T)/\T.data.toList=M.Zfb l P.data.toList/\Below w.heap.size w w':=by
 obtain⟨al,cl,el⟩:=hl.form
 subst el
 have HL:=hid hl
 have HS:=hid hs
 clear hl hs
 go_enter Tryz.func51,Tryz.ntmps51
 go_wp2
 go_loopw [5,6] (fun i _ wr=>∃ n:Nat,i=.int .i64 n/\n<=l.length/\Below w.heap.size w wr/\Hid (∀ p∈l.take n,Zhq p P.data.toList=false)) (fun i _ _=>l.length-(intOf i).toNat)
 case atStart=>exact⟨0,rfl,Nat.zero_le _,Below.refl _ _,fun p hp=>by simp at hp⟩
 case round=>
  obtain⟨n,rfl,hn,hBr,HR⟩:=hrel
  by_cases hlt:n<l.length
  ·have hfn:=(HS.out _ (List.getElem_mem hlt)).filen
   obtain⟨bl,off,rfl,_,hcapl,nv,bv,fv,o0,_,_,_,o4,_,_,hF⟩:=HL.out.cells hlt
   obtain⟨af,cf,ef⟩:=hF.form
   subst ef
   have hbl:bl<w.heap.size:=World.block_lt_of_cell? _ _ o0
   have HF:=hid hF
   have HO0:=hid o0
   have HO4:=hid o4
   clear o0 o4 hF
   obtain⟨W0,hW0⟩:∃ W,W=wr:=⟨_,rfl⟩
   subst hW0
   go_wp2
   go_loopw [6] (fun j wr=>∃ k:Nat,j=.int .i64 k/\k<=l[n].files.length/\Below w.heap.size w wr/\Hid (∀ f∈l[n].files.take k,f.path≠P.data.toList)) (fun j _=>l[n].files.length-(intOf j).toNat)
   case atStart=>exact⟨0,rfl,Nat.zero_le _,hBr,fun f hf=>by simp at hf⟩
   case round=>
    obtain⟨k,rfl,hk,hBk,HQ⟩:=hrel
    have c4:wr.cell? ⟨bl,off+n*5+4,none⟩=some (.slice af l[n].files.length cf):=(hBk.cell (p:=⟨bl,off+n*5+4,none⟩) hbl).trans HO4.out
    by_cases hlk:k<l[n].files.length
    ·obtain⟨gf,rfl,hgf,hcapf,hcf⟩:=HF.out.cellAt (by omega)
     have c5:wr.cell? ⟨gf,k*2,none⟩=some (.string ⟨l[n].files[k].path.toArray⟩):=(hBk.cell (p:=⟨gf,k*2,none⟩) hgf).trans (hcf _ _ (by rw[Nat.mul_comm];exact Zgp hlk))
     obtain⟨X,hX⟩:∃ X:ByteArray,X=⟨l[n].files[k].path.toArray⟩:=⟨_,rfl⟩
     rw[<-hX] at c5
     have HX:Hid (X.data.toList=l[n].files[k].path):=by show _ = _;rw[hX]
     clear hX hcf
     by_cases hm:(X.toList == P.toList)=true
     ·have c0:wr.cell? ⟨bl,off+n*5,none⟩=some (.string ⟨l[n].name.toArray⟩):=(hBk.cell (p:=⟨bl,off+n*5,none⟩) hbl).trans HO0.out
      have HE:Hid (M.Zfb l P.data.toList=l[n].name):=by
       refine Z4a hlt (List.any_eq_true.2 ⟨l[n].files[k],List.getElem_mem hlk,?_⟩) HR.out
       rw[Lib.toList_data,Lib.toList_data,beq_iff_eq,HX.out] at hm
       simp[hm]
      go_wp2
      go_ret
      exact⟨_,rfl,by rw[HE.out],hBk⟩
     ·replace hm:(X.toList == P.toList)=false:=by simpa using hm
      have HQ2:Hid (∀ f∈l[n].files.take (k+1),f.path≠P.data.toList):=fun f hf=>by
       rw[List.take_succ_eq_append_getElem hlk] at hf
       rcases List.mem_append.1 hf with hf|hf
       ·exact HQ.out f hf
       ·simp at hf
        subst hf
        rw[Lib.toList_data,Lib.toList_data,beq_eq_false_iff_ne,HX.out] at hm
        exact hm
      go_wp2
      go_roundw
      case rel=>exact⟨k+1,by go_num,by omega,hBk,HQ2⟩
      case measure=>simp[intOf];omega
    ·have hkk:k=l[n].files.length:=by omega
     have HR2:Hid (∀ p∈l.take (n+1),Zhq p P.data.toList=false):=fun p hp=>by
      rw[List.take_succ_eq_append_getElem hlt] at hp
      rcases List.mem_append.1 hp with hp|hp
      ·exact HR.out p hp
      ·simp at hp
       subst hp
       unfold Zhq
       rw[List.any_eq_false]
       intro f hf
       have:=HQ.out f (by rw[hkk,List.take_length];exact hf)
       simpa using this
     clear hkk HQ
     go_wp2
     go_roundw
     case rel=>exact⟨n+1,by go_num,by omega,hBk,HR2⟩
     case measure=>simp[intOf];omega
  ·have hnn:n=l.length:=by omega
   have HE:Hid (M.Zfb l P.data.toList=[]):=owner_none (fun p hp=>HR.out p (by rw[hnn,List.take_length];exact hp))
   go_wp2
   go_ret
   exact⟨_,rfl,by rw[HE.out],hBr⟩
def Zzs(R:Sum M.Fa (List M.Pk))(w:World)(e:Ending)(w':World):Prop:=
 Below w.heap.size w w'/\match R with
  | .inl f=>e=.returned (.tuple #[.slice none 0 0,faV f])
  | .inr all=>∃ av,e=.returned (.tuple #[av,faV M.Ycn])/\Zbc w' av all/\Zjt w' av all
theorem Ztj{qQ:List M.Pk}{qX:List (List UInt8)}{all:List M.Pk}{qG:List (List UInt8)}(h:M.Zar qQ qX=.inr (all,qG))(hr:∀ p∈qQ,Zbb p):
 ∃ qZ,M.Zav qX 0 []=.inr qZ/\all=qQ++qZ/\M.Zbf qZ 0 qQ=.inr all/\(∀ p∈all,Zbb p)/\all.length=qQ.length+qX.length:=by
 unfold M.Zar at h
 cases h1:M.Zav qX 0 [] with
 | inl f=>rw[h1] at h;cases h
 | inr qZ=>
  rw[h1] at h
  dsimp only at h
  cases h2:M.Zbf qZ 0 qQ with
  | inl f=>rw[h2] at h;cases h
  | inr al=>
   rw[h2] at h
   dsimp only at h
   unfold M.Zcc at h
   split at h
   ·cases h
   ·split at h
    ·cases h
    ·split at h
     ·cases h
     ·split at h
      ·cases h
      ·cases h
       have e:=M.Zi9 _ _ _ _ h2
       refine⟨qZ,rfl,e,h2,fun p hp=>?_,?_⟩
       ·rw[e] at hp
        rcases List.mem_append.1 hp with hp|hp
        ·exact hr p hp
        ·rcases M.Zgm _ _ _ _ h1 p hp with h|⟨t,_,h⟩
         ·cases h
         ·exact Ybj h
       ·rw[e,List.length_append,M.Zge _ _ _ _ h1]
        simp
theorem Zvt{qQ:List M.Pk}{qX:List (List UInt8)}{f:M.Fa}(h:M.Zar qQ qX=.inl f):f.kind≠0:=by
 have h1:∀ (ts:List (List UInt8)) (i:Nat) (acc:List M.Pk) (f:M.Fa),M.Zav ts i acc=.inl f->f.kind≠0:=by
  intro ts
  induction ts with
  | nil=>intro i acc f h;cases h
  | cons t ts ih=>
   intro i acc f h
   simp only[M.Zav] at h
   split at h
   ·cases h;simp
   ·exact ih _ _ _ h
 have h2:∀ (ps:List M.Pk) (i:Nat) (acc:List M.Pk) (f:M.Fa),M.Zbf ps i acc=.inl f->f.kind≠0:=by
  intro ps
  induction ps with
  | nil=>intro i acc f h;cases h
  | cons p ps ih=>
   intro i acc f h
   simp only[M.Zbf] at h
   split at h
   ·cases h;simp
   ·exact ih _ _ _ h
 unfold M.Zar at h
 split at h
 ·rename_i g e
  cases h
  exact h1 _ _ _ _ e
 ·split at h
  ·rename_i g e
   cases h
   exact h2 _ _ _ _ e
  ·unfold M.Zcc at h
   split at h
   ·cases h;simp
   ·split at h
    ·cases h;simp
    ·split at h
     ·cases h;simp
     ·split at h
      ·cases h;simp
      ·cases h
theorem Ztt(tv xv:Value)(qQ:List M.Pk)(qX:List ByteArray)(n:Nat)(w:World)(ht:Zbc w tv qQ)(hx:Za8 w xv qX)(hn:n<=256)(htn:qQ.length<=20000)(hxn:qX.length<=20000)(hxs:∀ t∈qX,t.size<=20000)(hs:∀ p∈qQ,Zbb p):
 Calls Tryz.prog 91 #[tv,xv,.int .i64 n] w (Zzs (M.Zap qQ (qX.map fun t=>t.data.toList) (Znd n)) w):=by
 have cP:=fun wx (hb:Below w.heap.size w wx)=>Zor tv xv qQ qX wx (ht.below hb) (Za8.below hx hb) htn hxn hxs (fun p hp=>(hs p hp).smallQ)
 have hall:=fun all qG (h:M.Zar qQ (qX.map fun t=>t.data.toList)=.inr (all,qG))=>Ztj h hs
 obtain⟨at',ct,et⟩:=ht.form
 subst et
 obtain⟨ax,cx,ex⟩:=hx.form
 subst ex
 clear ht hx hxs hs
 generalize hW1:w.alloc (.cells #[.int .i64 0,.int .i64 0,.int .i64 0,.string ⟨#[]⟩] 118)=W1
 have s1:W1.heap.size=w.heap.size+1:=by rw[<-hW1];simp
 have HB1:Hid (Below w.heap.size w W1):=by rw[<-hW1];exact(Below.refl _ w).alloc ler _
 obtain⟨_,_,nb3,nb4⟩:=Zme w [.int .i64 0,.int .i64 0,.int .i64 0,.string ⟨#[]⟩] 118 0
 have HK:Hid (∀ o u,[Value.int .i64 0,.int .i64 0,.int .i64 0,.string ⟨#[]⟩][o]? = some u->W1.cell? ⟨w.heap.size,o,none⟩=some u):=by rw[<-hW1];exact nb3
 have HFZ:Hid (∀ o,W1.frozen? ⟨w.heap.size,o,none⟩=false):=by rw[<-hW1];exact nb4
 clear nb3 nb4
 have HZ:Hid (∀ W,Below W1.heap.size W1 W->W.cell? ⟨w.heap.size,0,none⟩=some (.int .i64 0)/\W.cell? ⟨w.heap.size,1,none⟩=some (.int .i64 0)/\W.cell? ⟨w.heap.size,2,none⟩=some (.int .i64 0)/\W.cell? ⟨w.heap.size,3,none⟩=some (.string ⟨#[]⟩)/\∀ o,W.frozen? ⟨w.heap.size,o,none⟩=false):=fun W hb=>by
  have kc:∀ o,W.cell? ⟨w.heap.size,o,none⟩=W1.cell? ⟨w.heap.size,o,none⟩:=fun o=>hb.cell (p:=⟨w.heap.size,o,none⟩) (by show w.heap.size < _;omega)
  exact⟨(kc 0).trans (HK.out 0 _ rfl),(kc 1).trans (HK.out 1 _ rfl),(kc 2).trans (HK.out 2 _ rfl),(kc 3).trans (HK.out 3 _ rfl),fun o=>(hb.frozen (p:=⟨w.heap.size,o,none⟩) (by show w.heap.size < _;omega)).trans (HFZ.out o)⟩
 go_enter Tryz.func91,Tryz.ntmps91
 go_wp2_with fail
 refine(cP _ HB1.out).mono ?_
 rintro e w2 ⟨hB2,hm⟩
 clear cP
 have hB12:Below w.heap.size w w2:=bt HB1.out hB2
 cases hR:M.Zar qQ (qX.map fun t=>t.data.toList) with
 | inl f=>
  rw[hR] at hm
  subst hm
  have hk:f.kind≠0:=Zvt hR
  obtain⟨fk,fw,fl,fn⟩:=f
  obtain⟨N,hN⟩:∃ N:ByteArray,N=⟨fn.toArray⟩:=⟨_,rfl⟩
  have HPV:Hid (faV ⟨fk,fw,fl,fn⟩=.agg #[.int .i64 fk,.int .i64 fw,.int .i64 fl,.string N]):=by show faV _ = _;rw[hN];rfl
  rw[HPV.out]
  have hk0:((fk:Int) != 0)=true:=by simpa using hk
  have hk1:¬ ((fk:Int)=0):=by have:fk≠0:=hk;omega
  have HI:Hid (M.Zap qQ (qX.map fun t=>t.data.toList) (Znd n)=.inl ⟨fk,fw,fl,fn⟩):=by
   show _ = _
   unfold M.Zap
   rw[hR]
  generalize hW3:w2.alloc (.cells #[.int .i64 fk,.int .i64 fw,.int .i64 fl,.string N] 118)=W3
  have HB3:Hid (Below w2.heap.size w2 W3):=by rw[<-hW3];exact(Below.refl _ w2).alloc ler _
  have HC3:Hid (∀ j u,[Value.int .i64 fk,.int .i64 fw,.int .i64 fl,.string N][j]? = some u->W3.cell? ⟨w2.heap.size,j,none⟩=some u):=by rw[<-hW3];exact fun j u hu=>Zbk w2 _ _ j u hu
  have q0:=HC3.out 0 _ rfl
  have q1:=HC3.out 1 _ rfl
  have q2:=HC3.out 2 _ rfl
  have q3:=HC3.out 3 _ rfl
  obtain⟨z0,z1,z2,z3,zf⟩:=HZ.out W3 (bt hB2 HB3.out)
  have HBF:Hid (Below w.heap.size w W3):=bt hB12 HB3.out
  clear hN hall hk hR
  go_wp2
  go_region
  all_goals
   go_wp2
   refine bodyPost_ret (v:=.tuple #[.slice none 0 0,.agg #[.int .i64 fk,.int .i64 fw,.int .i64 fl,.string N]]) (by simp[results,Tryz.results91,go_sem,z0,z1,z2,z3]) rfl ⟨?_,?_⟩
   ·exact below_drewN ((((HBF.out.setCell ler _).setCell ler _).setCell ler _).setCell ler _) 1
   ·rw[HI.out]
    show _ = Ending.returned (.tuple #[.slice none 0 0,faV ⟨fk,fw,fl,fn⟩])
    rw[HPV.out]
 | inr an=>
  obtain⟨all,qG⟩:=an
  rw[hR] at hm
  obtain⟨av,ov,rfl,hav,hov,hty⟩:=hm
  obtain⟨qZ,-,-,-,hrp,hlen⟩:=hall all qG hR
  rw[List.length_map] at hlen
  replace hlen:all.length<=40000:=by omega
  obtain⟨aa,ca,ea⟩:=hav.form
  subst ea
  obtain⟨ao,co,eo⟩:=hov.form
  subst eo
  have HAV:=hid hav
  have HTy:=hid hty
  have HI:Hid (M.Zap qQ (qX.map fun t=>t.data.toList) (Znd n)=if Znd n<M.Zbn all then .inl ⟨8,0,0,[]⟩ else .inr all):=by
   show _ = _
   unfold M.Zap
   rw[hR]
  have eF:faV M.Ycn=.agg #[.int .i64 0,.int .i64 0,.int .i64 0,.string ⟨#[]⟩]:=rfl
  rw[eF]
  have HB3:Hid (Below w2.heap.size w2 (w2.alloc (.cells #[.int .i64 0,.int .i64 0,.int .i64 0,.string ⟨#[]⟩] 118))):=(Below.refl _ w2).alloc ler _
  have cS:=fun wx (hb:Below w2.heap.size w2 wx)=>Zze (.slice aa all.length ca) all wx (HAV.out.below hb) (by omega) hrp
  have cR:=fun wx=>Zy5 n wx hn
  have HRP:=hid hrp
  clear hall hR hav hov hrp eF hty
  go_wp2_with fail
  refine(cS _ HB3.out).mono ?_
  rintro e w4 ⟨rfl,hB4⟩
  have hB14:Below W1.heap.size W1 w4:=bt hB2 (bt HB3.out hB4)
  obtain⟨z0,z1,z2,z3,zf⟩:=HZ.out w4 hB14
  have HBF:Hid (Below w.heap.size w w4):=bt hB12 (bt HB3.out hB4)
  have hB24:Below w2.heap.size w2 w4:=bt HB3.out hB4
  by_cases hgt:Znd n<M.Zbn all
  ·have HI2:Hid (M.Zap qQ (qX.map fun t=>t.data.toList) (Znd n)=.inl ⟨8,0,0,[]⟩):=by show _ = _;rw[HI.out,if_pos hgt]
   clear cS HI
   generalize M.Zbn all=sz at hgt ⊢
   generalize Znd n=rm at hgt cR
   have hgt':((sz:Int) > rm):=hgt
   go_wp2_with (go_at_call 53;refine(cR _).mono ?_;rintro e w' ⟨rfl,rfl⟩)
   refine bodyPost_ret (v:=.tuple #[.slice none 0 0,.agg #[.int .i64 8,.int .i64 0,.int .i64 0,.string ⟨#[]⟩]]) (by simp[results,Tryz.results91,go_sem,z0,z1,z2,z3]) rfl ⟨?_,?_⟩
   ·exact(((HBF.out.setCell ler _).setCell ler _).setCell ler _).setCell ler _
   ·rw[HI2.out]
    rfl
  ·have HI2:Hid (M.Zap qQ (qX.map fun t=>t.data.toList) (Znd n)=.inr all):=by show _ = _;rw[HI.out,if_neg hgt]
   clear cS HI
   generalize M.Zbn all=sz at hgt ⊢
   generalize Znd n=rm at hgt cR
   have hgt':¬ ((sz:Int) > rm):=hgt
   go_wp2_with (go_at_call 53;refine(cR _).mono ?_;rintro e w' ⟨rfl,rfl⟩)
   refine bodyPost_ret (v:=.tuple #[.slice aa all.length ca,.agg #[.int .i64 0,.int .i64 0,.int .i64 0,.string ⟨#[]⟩]]) (by simp[results,Tryz.results91,go_sem,z0,z1,z2,z3]) rfl ⟨?_,?_⟩
   ·exact(((HBF.out.setCell ler _).setCell ler _).setCell ler _).setCell ler _
   ·rw[HI2.out]
    exact⟨_,rfl,(HAV.out.below hB24).same (by rw[Za0,Za0,Za0,Za0]) (fun a=>Zkz z0 z1 z2 z3 a) (fun g e=>Zb0 (Zb0 (Zb0 (Zb0 e)))),((((HTy.out.below hB24).set _ _ _).set _ _ _).set _ _ _).set _ _ _⟩
end Go.Proofs.YtgnfknjopafngabGreatDoor
