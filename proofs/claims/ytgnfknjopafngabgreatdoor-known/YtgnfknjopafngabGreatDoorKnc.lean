import Derived.Deep.OwnRows
import Derived.Test.YtgnfknjopafngabGreatDoorKnb
import Derived.Laws.CopyRow
set_option maxRecDepth 100000
set_option maxHeartbeats 8000000
namespace Go.Proofs.YtgnfknjopafngabGreatDoor
open Go.RowKit
def byteV(b:UInt8):Value:=.int .u8 b.toNat
def Sec(w:World)(base:Nat)(v:Value)(x:List UInt8):Prop:=∃ g c,v=.slice (some ⟨g,0,none⟩) 64 c/\64<=c/\c<=maxLen/\base<=g/\(∃ cur,w.heap[g]? = some (.cells cur 5 (0,0)))/\(∀ j u,(x.map byteV)[j]? = some u->w.cell? ⟨g,j,none⟩=some u)/\x.length=64
def Secs(w:World)(base:Nat)(v:Value)(l:List (List UInt8)):Prop:=∃ vs,w.ownsRow base 102 1 v l.length vs/\vs.length=l.length/\∀ i (hi:i<l.length),∃ u,vs[i]? = some u/\Sec w base u l[i]
theorem Sec.kept{w w':World}{base:Nat}{v:Value}{x:List UInt8}{row:Option Nat}(h:Sec w base v x)(hg:w.grownBy w' row)(hr:∀ j,row=some j->∀ cur fz,w.heap[j]?≠some (.cells cur 5 fz)):Sec w' base v x:=by
 obtain⟨g,c,e,h4,h5,h1,⟨cur,h2⟩,h6,h3⟩:=h
 have hb:=hg.block g (Array.getElem?_eq_some_iff.1 h2).1 (fun e=>hr g e.symm _ _ h2)
 exact⟨g,c,e,h4,h5,h1,⟨cur,hb.trans h2⟩,fun j u hu=>(World.cell?_of_block (a:=⟨g,j,none⟩) hb).trans (h6 j u hu),h3⟩
theorem Sec.whole{w:World}{base g:Nat}{x:List UInt8}(hb:base<=g)(h:w.heap[g]? = some (.cells (x.map byteV).toArray 5 (0,0)))(hx:x.length=64):Sec w base (.slice (some ⟨g,0,none⟩) 64 64) x:=
 ⟨g,64,rfl,Nat.le_refl _,by unfold maxLen;omega,hb,⟨_,h⟩,fun j u hu=>by rw[cell_of_row w g j _ _ (0,0) h];simpa using hu,hx⟩
theorem Secs.kept{w w':World}{base:Nat}{v:Value}{l:List (List UInt8)}{row:Option Nat}(h:Secs w base v l)(hg:w.grownBy w' row)(hr:∀ j,row=some j->∀ cur fz,w.heap[j]?≠some (.cells cur 5 fz))(hne:v.ownBlock=none\/v.ownBlock≠row):Secs w' base v l:=by
 obtain⟨vs,h1,h2,h3⟩:=h
 refine⟨vs,h1.kept hg hne,h2,fun i hi=>?_⟩
 obtain⟨u,k1,k2⟩:=h3 i hi
 exact⟨u,k1,k2.kept hg hr⟩
theorem Secs.empty(w:World)(base:Nat):Secs w base (.slice none 0 0) []:=⟨[],World.ownsRow_nil _ _ _ _,rfl,fun i hi=>by simp at hi⟩
def zeros:List UInt8:=List.replicate 64 0
theorem infoSec:(Tryz.prog.info? 102).map (fun i=>(i.zero,i.size,i.bytes))=some (some (.slice none 0 0),1,24):=by kernel_rfl
theorem Secs.append{w:World}{base:Nat}{v:Value}{l:List (List UInt8)}(h:Secs w base v l)(u:Value)(x:List UInt8)(b:Nat)(ty:TypeId)(hu:Sec w base u x)(hb:w.cell? ⟨b,0,none⟩=some u)(hn:l.length<=1000000)(hbase:base<=w.heap.size):
 ∃ v' w',(Builtin.append_ #[98,98] ty #[v,.slice (some ⟨b,0,none⟩) 1 1]).run Tryz.prog w=.ok v' w'/\Secs w' base v' (l++[x])/\w.grownBy w' v.ownBlock/\(v'.ownBlock=v.ownBlock\/v'.ownBlock=some w.heap.size):=by
 obtain⟨i0,hi0,hz0,hz1,hz2⟩:=info_parts infoSec
 obtain⟨vs,h1,h2,h3⟩:=h
 have hu1:∀ y∈[u],y.oneCell'=true:=fun y hy=>by
  simp only[List.mem_singleton] at hy
  subst hy
  obtain⟨g,c,rfl,_⟩:=hu
  rfl
 obtain⟨v',w',hrun,r1,r2,_,r4⟩:=run_append_own_at (P:=Tryz.prog) w base 98 ty 102 i0 _ 1 24 Tryz.underlying98 hi0 hz0 hz1 hz2 rfl (by decide) v l.length vs h1 ⟨b,0,none⟩ 1 1 [u] rfl (fun j y hy=>by
  match j,hy with
  | 0,hy=>cases hy;rw[Addr.add_lit];exact hb) hu1 (by unfold maxLen;omega) (by omega) hbase
 have hro:∀ j,v.ownBlock=some j->∀ cur fz,w.heap[j]?≠some (.cells cur 5 fz):=fun j hj cur fz hh=>by
  obtain⟨_,⟨rfl,_⟩|⟨g,cap,cur2,rfl,_,hg,_⟩⟩:=h1
  ·cases hj
  ·cases hj
   rw[hg] at hh
   cases hh
 refine⟨v',w',hrun,⟨vs++[u],by rw[List.length_append];exact r1,by simp[h2],fun i hi=>?_⟩,r2,r4⟩
 by_cases hlt:i<l.length
 ·obtain⟨y,k1,k2⟩:=h3 i hlt
  refine⟨y,by rw[List.getElem?_append_left (by omega)];exact k1,?_⟩
  rw[List.getElem_append_left hlt]
  exact k2.kept r2 hro
 ·have e:i=l.length:=by simp at hi;omega
  subst e
  refine⟨u,by rw[List.getElem?_append_right (by omega)];simp[h2],?_⟩
  rw[List.getElem_append_right (by omega)]
  simpa using hu.kept r2 hro
structure DiskAt (w:World) (d:Nat) (hv sv lv:Value) (left:Int) (dead:Bool) (held seen:List (List UInt8)):Prop where
 blk:w.heap[d]? = some (.cells #[hv,sv,lv,.int .i64 left,.bool dead] 101 (0,0))
 held:Secs w (d+1) hv held
 seen:Secs w (d+1) sv seen
 apart:∀ g,hv.ownBlock=some g->sv.ownBlock≠some g
abbrev Z64:Array Value:=(zeros.map byteV).toArray
theorem z64:madeCells #[.int .u8 0] 64=Z64:=by kernel_rfl
theorem u8Info:(Tryz.prog.info? 5).map (fun i=>(i.zero,i.size,i.bytes))=some (some (.int .u8 0),1,1):=by kernel_rfl
theorem make64(w:World):(Instr.makeSlice 102 (.int .i64 64) (.int .i64 64)).run Tryz.prog w=.ok (.slice (some ⟨w.heap.size,0,none⟩) 64 64) (w.alloc (.cells Z64 5)):=by
 rw[<-z64]
 exact run_make_row' 102 5 (.int .u8 0) 1 Tryz.underlying102 u8Info rfl .i64 .i64 64 (by omega) (by omega) w
theorem zeros_len:zeros.length=64:=by simp[zeros]
theorem repl_more(k:Nat)(x:List UInt8):List.replicate (k+1) x=List.replicate k x++[x]:=List.replicate_succ'
abbrev sec1(w:World):World:=((w.alloc (.cells Z64 5)).alloc (.cells #[.slice (some ⟨w.heap.size,0,none⟩) 64 64] 102)).drew
theorem sec1_below(w:World):Below w.heap.size w (sec1 w):=bt (bt ((Below.refl _ w).alloc ler _) ((Below.refl _ _).alloc ler _)) (below_same _ 1)
theorem sec1_size(w:World):(sec1 w).heap.size=w.heap.size+2:=by simp[sec1]
theorem grown_of_below{w w':World}(h:Below w.heap.size w w')(row:Option Nat):w.grownBy w' row:=⟨h.os,h.tape,h.output,h.size,fun k hk _=>h.block k hk⟩
theorem sec1_sec(w:World)(base:Nat)(hb:base<=w.heap.size):Sec (sec1 w) base (.slice (some ⟨w.heap.size,0,none⟩) 64 64) zeros:=by
 refine Sec.whole hb ?_ zeros_len
 have h1:(w.alloc (.cells Z64 5)).heap[w.heap.size]? = some (.cells Z64 5 (0,0)):=heap_alloc_new w _
 exact(heap_alloc_old _ _ (by simp)).trans h1
theorem sec1_cell(w:World):(sec1 w).cell? ⟨w.heap.size+1,0,none⟩=some (.slice (some ⟨w.heap.size,0,none⟩) 64 64):=by
 simp[sec1]
theorem Secs.form{w:World}{base:Nat}{v:Value}{l:List (List UInt8)}(h:Secs w base v l):∃ a c,v=.slice a l.length c:=by
 obtain⟨vs,h1,_⟩:=h
 exact own_form h1
theorem Secs.lt{w:World}{base:Nat}{v:Value}{l:List (List UInt8)}(h:Secs w base v l):∀ g,v.ownBlock=some g->base<=g/\g<w.heap.size:=by
 obtain⟨vs,h1,_⟩:=h
 exact fun g hg=>h1.lt g hg
theorem Secs.no_u8{w:World}{base:Nat}{v:Value}{l:List (List UInt8)}(h:Secs w base v l):∀ j,v.ownBlock=some j->∀ cur fz,w.heap[j]?≠some (.cells cur 5 fz):=by
 obtain⟨vs,h1,_⟩:=h
 intro j hj cur fz hh
 obtain⟨_,⟨rfl,_⟩|⟨g,cap,cur2,rfl,_,hg,_⟩⟩:=h1
 ·cases hj
 ·cases hj
  rw[hg] at hh
  cases hh
theorem DiskAt.more0{w:World}{d:Nat}{hv sv lv:Value}{left:Int}{dead:Bool}{held seen:List (List UInt8)}(h:DiskAt w d hv sv lv left dead held seen)(ty:TypeId)(hn:held.length<=1000000):
 ∃ a c w',(Builtin.append_ #[98,98] ty #[hv,.slice (some ⟨w.heap.size+1,0,none⟩) 1 1]).run Tryz.prog (sec1 w)=.ok (.slice a (held.length+1) c) w'/\w'.heap[d]? = some (.cells #[hv,sv,lv,.int .i64 left,.bool dead] 101 (0,0))/\
  DiskAt (w'.setCell ⟨d,0,none⟩ (.slice a (held.length+1) c)) d (.slice a (held.length+1) c) sv lv left dead (held++[zeros]) seen/\Below d w (w'.setCell ⟨d,0,none⟩ (.slice a (held.length+1) c)):=by
 have hd:d<w.heap.size:=(Array.getElem?_eq_some_iff.1 h.blk).1
 have hb:=sec1_below w
 have hg:=grown_of_below hb none
 have hs:=sec1_size w
 have k1:Secs (sec1 w) (d+1) hv held:=h.held.kept hg (fun j hj=>by cases hj) (by cases hv.ownBlock <;> simp)
 have k2:Secs (sec1 w) (d+1) sv seen:=h.seen.kept hg (fun j hj=>by cases hj) (by cases sv.ownBlock <;> simp)
 obtain⟨v',w',r1,r2,r3,r4⟩:=k1.append _ zeros (w.heap.size+1) ty (sec1_sec w (d+1) (by omega)) (sec1_cell w) hn (by omega)
 obtain⟨a,c,e⟩:=r2.form
 subst e
 rw[List.length_append,List.length_singleton] at r1 r2 r4
 have e1:w'.heap[d]? = some (.cells #[hv,sv,lv,.int .i64 left,.bool dead] 101 (0,0)):=
  (r3.block d (by omega) (fun e=>by have:=k1.lt d e.symm;omega)).trans ((hb.block d hd).trans h.blk)
 have k3:Secs w' (d+1) sv seen:=k2.kept r3 k1.no_u8 (by
  cases hq:sv.ownBlock with
  | none=>exact .inl rfl
  | some g=>exact .inr (fun e=>h.apart g e.symm hq))
 have hset:w'.grownBy (w'.setCell ⟨d,0,none⟩ (.slice a (held.length+1) c)) (some d):=⟨rfl,rfl,rfl,by simp,fun k _ hk=>Below.heap_setCell _ _ _ _ (fun e=>hk (by rw[e]))⟩
 have hnd:∀ j,some d=some j->∀ cur fz,w'.heap[j]?≠some (.cells cur 5 fz):=fun j hj cur fz hh=>by
  cases hj
  rw[e1] at hh
  cases hh
 refine⟨a,c,w',r1,e1,⟨?_,r2.kept hset hnd ?_,k3.kept hset hnd ?_,?_⟩,?_⟩
 ·exact heap_setCell_same w' d 0 _ _ _ e1
 ·cases hq:(Value.slice a (held.length+1) c).ownBlock with
  | none=>exact .inl rfl
  | some g=>exact .inr (fun e=>by have:=r2.lt g hq;cases e;omega)
 ·cases hq:sv.ownBlock with
  | none=>exact .inl rfl
  | some g=>exact .inr (fun e=>by have:=k3.lt g hq;cases e;omega)
 ·intro g hg' hsv
  rcases r4 with e|e
  ·rw[e] at hg'
   exact h.apart g hg' hsv
  ·rw[e] at hg'
   have:=h.seen.lt g hsv
   cases hg'
   omega
 ·refine⟨hset.os.trans (r3.os.trans hb.os),hset.tape.trans (r3.tape.trans hb.tape),hset.output.trans (r3.output.trans hb.output),Nat.le_trans hb.size (Nat.le_trans r3.size hset.size),fun k hk=>?_⟩
  exact(hset.block k (by have:=r3.size;omega) (fun e=>by cases e;omega)).trans ((r3.block k (by omega) (fun e=>by have:=k1.lt k e.symm;omega)).trans (hb.block k (by omega)))
theorem DiskAt.more1{w:World}{d:Nat}{hv sv lv:Value}{left:Int}{dead:Bool}{held seen:List (List UInt8)}(h:DiskAt w d hv sv lv left dead held seen)(ty:TypeId)(hn:seen.length<=1000000):
 ∃ a c w',(Builtin.append_ #[98,98] ty #[sv,.slice (some ⟨w.heap.size+1,0,none⟩) 1 1]).run Tryz.prog (sec1 w)=.ok (.slice a (seen.length+1) c) w'/\w'.heap[d]? = some (.cells #[hv,sv,lv,.int .i64 left,.bool dead] 101 (0,0))/\
  DiskAt (w'.setCell ⟨d,1,none⟩ (.slice a (seen.length+1) c)) d hv (.slice a (seen.length+1) c) lv left dead held (seen++[zeros])/\Below d w (w'.setCell ⟨d,1,none⟩ (.slice a (seen.length+1) c)):=by
 have hd:d<w.heap.size:=(Array.getElem?_eq_some_iff.1 h.blk).1
 have hb:=sec1_below w
 have hg:=grown_of_below hb none
 have hs:=sec1_size w
 have k1:Secs (sec1 w) (d+1) hv held:=h.held.kept hg (fun j hj=>by cases hj) (by cases hv.ownBlock <;> simp)
 have k2:Secs (sec1 w) (d+1) sv seen:=h.seen.kept hg (fun j hj=>by cases hj) (by cases sv.ownBlock <;> simp)
 obtain⟨v',w',r1,r2,r3,r4⟩:=k2.append _ zeros (w.heap.size+1) ty (sec1_sec w (d+1) (by omega)) (sec1_cell w) hn (by omega)
 obtain⟨a,c,e⟩:=r2.form
 subst e
 rw[List.length_append,List.length_singleton] at r1 r2 r4
 have e1:w'.heap[d]? = some (.cells #[hv,sv,lv,.int .i64 left,.bool dead] 101 (0,0)):=
  (r3.block d (by omega) (fun e=>by have:=k2.lt d e.symm;omega)).trans ((hb.block d hd).trans h.blk)
 have k3:Secs w' (d+1) hv held:=k1.kept r3 k2.no_u8 (by
  cases hq:hv.ownBlock with
  | none=>exact .inl rfl
  | some g=>exact .inr (fun e=>h.apart g hq e.symm))
 have hset:w'.grownBy (w'.setCell ⟨d,1,none⟩ (.slice a (seen.length+1) c)) (some d):=⟨rfl,rfl,rfl,by simp,fun k _ hk=>Below.heap_setCell _ _ _ _ (fun e=>hk (by rw[e]))⟩
 have hnd:∀ j,some d=some j->∀ cur fz,w'.heap[j]?≠some (.cells cur 5 fz):=fun j hj cur fz hh=>by
  cases hj
  rw[e1] at hh
  cases hh
 refine⟨a,c,w',r1,e1,⟨?_,k3.kept hset hnd ?_,r2.kept hset hnd ?_,?_⟩,?_⟩
 ·exact heap_setCell_same w' d 1 _ _ _ e1
 ·cases hq:hv.ownBlock with
  | none=>exact .inl rfl
  | some g=>exact .inr (fun e=>by have:=k3.lt g hq;cases e;omega)
 ·cases hq:(Value.slice a (seen.length+1) c).ownBlock with
  | none=>exact .inl rfl
  | some g=>exact .inr (fun e=>by have:=r2.lt g hq;cases e;omega)
 ·intro g hg' hsv
  rcases r4 with e|e
  ·rw[e] at hsv
   exact h.apart g hg' hsv
  ·rw[e] at hsv
   have:=h.held.lt g hg'
   cases hsv
   omega
 ·refine⟨hset.os.trans (r3.os.trans hb.os),hset.tape.trans (r3.tape.trans hb.tape),hset.output.trans (r3.output.trans hb.output),Nat.le_trans hb.size (Nat.le_trans r3.size hset.size),fun k hk=>?_⟩
  exact(hset.block k (by have:=r3.size;omega) (fun e=>by cases e;omega)).trans ((r3.block k (by omega) (fun e=>by have:=k2.lt k e.symm;omega)).trans (hb.block k (by omega)))
theorem newDisk_any(n:Nat)(w:World)(hn:n<=256):Calls Tryz.prog 19 #[.int .i64 n] w fun e w'=>∃ hv sv,e=.returned (.pointer (some ⟨w.heap.size,0,none⟩))/\DiskAt w' w.heap.size hv sv (.slice none 0 0) (-1) false (List.replicate n zeros) (List.replicate n zeros)/\Below w.heap.size w w':=by
 have hmk:=make64
 go_enter Tryz.func19,Tryz.ntmps19
 go_wp2
 go_loopw [7] (fun i wr=>∃ (k:Nat) (hv sv:Value),i=.int .i64 k/\k<=n/\Hid (DiskAt wr w.heap.size hv sv (.slice none 0 0) (-1) false (List.replicate k zeros) (List.replicate k zeros))/\Hid (Below w.heap.size w wr)) (fun i _=>n-(intOf i).toNat)
 case atStart=>exact⟨0,_,_,rfl,Nat.zero_le _,⟨heap_alloc_new w _,Secs.empty _ _,Secs.empty _ _,fun g h=>by cases h⟩,(Below.refl _ w).alloc ler _⟩
 case round=>
  obtain⟨k,hv,sv,rfl,hk,HD,HB⟩:=hrel
  by_cases hlt:k<n
  ·obtain⟨a0,x0,e0⟩:=HD.out.held.form
   obtain⟨a1,c1,w1,ha1,hb1,hd1,hB1⟩:=HD.out.more0 98 (by rw[List.length_replicate];omega)
   have c0:wr.cell? ⟨w.heap.size,0,none⟩=some hv:=by rw[cell_of_row wr _ 0 _ _ (0,0) HD.out.blk];rfl
   have hds:w.heap.size<wr.heap.size:=(Array.getElem?_eq_some_iff.1 HD.out.blk).1
   have c1':(wr.alloc (.cells Z64 5)).cell? ⟨w.heap.size,0,none⟩=some hv:=(World.cell?_alloc_past _ _ _ hds).trans c0
   have d1:w1.cell? ⟨w.heap.size,0,none⟩=some hv:=by rw[cell_of_row w1 _ 0 _ _ (0,0) hb1];rfl
   have f1:w1.frozen? ⟨w.heap.size,0,none⟩=false:=frozen_of_row w1 _ _ _ _ hb1
   rw[List.length_replicate] at e0 ha1 hd1 hB1
   rw[<-repl_more] at hd1
   subst e0
   have HA1:=hid ha1
   clear ha1 hb1
   generalize hW2:w1.setCell ⟨w.heap.size,0,none⟩ (.slice a1 (k+1) c1)=W2 at hd1 hB1
   have HD1:=hid hd1
   have HB1:Hid (Below w.heap.size w W2):=HB.out.trans hB1
   clear hd1 hB1
   go_wp2
   go_region_law (refine step_append_eq rfl (.tmp 13) (.tmp 15) 98 rfl _ _ _ _ (by simp[Act.eval]) (by simp[Act.eval]) HA1.out ?_)
   all_goals
    obtain⟨a2,x2,e2⟩:=HD1.out.seen.form
    obtain⟨a3,c3,w3,ha3,hb3,hd3,hB3⟩:=HD1.out.more1 98 (by rw[List.length_replicate];omega)
    have c2:W2.cell? ⟨w.heap.size,1,none⟩=some sv:=by rw[cell_of_row W2 _ 1 _ _ (0,0) HD1.out.blk];rfl
    have hds2:w.heap.size<W2.heap.size:=(Array.getElem?_eq_some_iff.1 HD1.out.blk).1
    have c2':(W2.alloc (.cells Z64 5)).cell? ⟨w.heap.size,1,none⟩=some sv:=(World.cell?_alloc_past _ _ _ hds2).trans c2
    have d3:w3.cell? ⟨w.heap.size,1,none⟩=some sv:=by rw[cell_of_row w3 _ 1 _ _ (0,0) hb3];rfl
    have f3:w3.frozen? ⟨w.heap.size,1,none⟩=false:=frozen_of_row w3 _ _ _ _ hb3
    rw[List.length_replicate] at e2 ha3 hd3 hB3
    rw[<-repl_more] at hd3
    subst e2
    have HA3:=hid ha3
    clear ha3 hb3 c0 c1' d1 f1 hds
    generalize hW4:w3.setCell ⟨w.heap.size,1,none⟩ (.slice a3 (k+1) c3)=W4 at hd3 hB3
    have HD3:=hid hd3
    have HB3:Hid (Below w.heap.size w W4):=HB1.out.trans hB3
    clear hd3 hB3 hW2
    go_wp2
    go_region_law (refine step_append_eq rfl (.tmp 23) (.tmp 25) 98 rfl _ _ _ _ (by simp[Act.eval]) (by simp[Act.eval]) HA3.out ?_)
    all_goals
     go_wp2
     go_roundw
     case rel=>exact⟨k+1,_,_,by go_num,by omega,HD3,HB3⟩
     case measure=>simp[intOf];omega
  ·go_wp2
   go_ret
   have hkn:k=n:=by omega
   subst hkn
   exact⟨_,_,rfl,HD.out,HB.out⟩
theorem byte_one(x:List UInt8):∀ v∈x.map byteV,v.oneCell'=true:=fun v hv=>by
 obtain⟨b,_,rfl⟩:=List.mem_map.1 hv
 rfl
theorem byteInfo:(Tryz.prog.info? 5).map (·.size)=some 1:=by kernel_rfl
theorem copy64{w:World}{g h:Nat}{cur:Array Value}{x:List UInt8}{t:TypeId}(ty:TypeId)(hg:w.heap[g]? = some (.cells cur t (0,0)))(hc:cur.size=64){c:Nat}(hh:∀ j u,(x.map byteV)[j]? = some u->w.cell? ⟨h,j,none⟩=some u)(hx:x.length=64):
 (Builtin.copy_ #[102,102] ty #[.slice (some ⟨g,0,none⟩) 64 64,.slice (some ⟨h,0,none⟩) 64 c]).run Tryz.prog w=.ok (.int .i64 64) (w.setRow g (x.map byteV).toArray):=by
 have hl:(x.map byteV).length=64:=by rw[List.length_map];exact hx
 rw[run_copy_row Tryz.prog w 102 102 ty 5 g 0 64 64 ⟨h,0,none⟩ 64 c cur t (x.map byteV) Tryz.underlying102 byteInfo hg (by rw[hl];rfl) (fun j v hv=>by
  rw[Addr.add_lit,Nat.zero_add]
  exact hh j v hv) (by omega) (byte_one x)]
 rw[hl]
 have e:(cur.toList.take 0++x.map byteV++cur.toList.drop (0+64))=x.map byteV:=by
  rw[List.drop_eq_nil_of_le (by simp;omega)]
  simp
 rw[e]
 rfl
theorem setRow_grown(w:World)(g:Nat)(cs:Array Value):w.grownBy (w.setRow g cs) (some g):=⟨rfl,rfl,rfl,by simp,fun k _ hk=>setRow_other w g k _ (fun e=>hk (by rw[e]))⟩
theorem Secs.at{w:World}{base:Nat}{v:Value}{l:List (List UInt8)}(h:Secs w base v l){n:Nat}(hn:n<l.length):
 ∃ b c g cg,v=.slice (some ⟨b,0,none⟩) l.length c/\b<w.heap.size/\l.length<=c/\c<=maxLen/\w.cell? ⟨b,n,none⟩=some (.slice (some ⟨g,0,none⟩) 64 cg)/\64<=cg/\cg<=maxLen/\g<w.heap.size/\(∀ j u,(l[n].map byteV)[j]? = some u->w.cell? ⟨g,j,none⟩=some u)/\l[n].length=64:=by
 obtain⟨vs,h1,h2,h3⟩:=h
 obtain⟨u,k1,g,cg,rfl,k5,k6,k2,⟨cur0,k3⟩,k7,k4⟩:=h3 n hn
 have h1':=h1
 obtain⟨hl,⟨rfl,h0⟩|⟨b,cap,cur,rfl,hb,hg,hnc,hcm,hcs,ht⟩⟩:=h1
 ·omega
 ·have hc:=h1'.cellAt n (by omega)
  exact⟨b,cap,g,cg,rfl,(Array.getElem?_eq_some_iff.1 hg).1,hnc,hcm,hc.trans k1,k5,k6,(Array.getElem?_eq_some_iff.1 k3).1,k7,k4⟩
theorem dRead_any(d n:Nat)(hv sv lv:Value)(left:Int)(dead:Bool)(held seen:List (List UInt8))(w:World)(h:DiskAt w d hv sv lv left dead held seen)(hn:n<seen.length):
 Calls Tryz.prog 311 #[.pointer (some ⟨d,0,none⟩),.int .i64 n] w fun e w'=>e=.returned (.slice (some ⟨w.heap.size,0,none⟩) 64 64)/\w'.heap[w.heap.size]? = some (.cells (seen[n].map byteV).toArray 5 (0,0))/\Below w.heap.size w w':=by
 have hmk:=make64
 obtain⟨b,c,g,cg,rfl,hb,hc1,hc2,q1,hg1,hg2,hg,q2,q3⟩:=h.seen.at hn
 have hd:d<w.heap.size:=(Array.getElem?_eq_some_iff.1 h.blk).1
 have q0:w.cell? ⟨d,1,none⟩=some (.slice (some ⟨b,0,none⟩) seen.length c):=by rw[cell_of_row w _ 1 _ _ (0,0) h.blk];rfl
 generalize hX:seen[n]=X at q2 q3 ⊢
 clear hX
 generalize hL:seen.length=L at q0 hn hc1
 generalize hA:w.alloc (.cells Z64 5)=A1
 have hB:Below w.heap.size w A1:=by rw[<-hA];exact(Below.refl _ w).alloc ler _
 have hn1:A1.heap[w.heap.size]? = some (.cells Z64 5 (0,0)):=by rw[<-hA];exact heap_alloc_new w _
 have p0:=(hB.cell (p:=⟨d,1,none⟩) hd).trans q0
 have p1:=(hB.cell (p:=⟨b,n,none⟩) hb).trans q1
 have hcp:=copy64 3 hn1 (by simp[Z64,zeros_len]) (c:=cg) (fun j u hu=>(hB.cell (p:=⟨g,j,none⟩) hg).trans (q2 j u hu)) q3
 have hL2:L<=9223372036854775807:=by unfold maxLen at hc2;omega
 have hg3:cg<=9223372036854775807:=by unfold maxLen at hg2;omega
 have HE:Hid (w.heap.size<=A1.heap.size/\(A1.setRow w.heap.size (X.map byteV).toArray).heap[w.heap.size]? = some (.cells (X.map byteV).toArray 5 (0,0))/\Below w.heap.size w (A1.setRow w.heap.size (X.map byteV).toArray)):=
  ⟨hB.size,setRow_heap A1 _ _ _ _ _ hn1,hB.grown (setRow_grown A1 _ _) hB.size (fun j hj=>by cases hj;exact Nat.le_refl _)⟩
 clear q0 q1 q2 q3 hL hn1 hB h
 go_enter Tryz.func311,Tryz.ntmps311
 go_wp2
 go_ret
 exact⟨rfl,HE.out.2⟩
def KnownAt(w:World)(k d half:Nat):Prop:=w.heap[k]? = some (.cells #[.iface 57 (.pointer (some ⟨d,0,none⟩)),.int .i64 half] 229 (0,0))
end Go.Proofs.YtgnfknjopafngabGreatDoor
