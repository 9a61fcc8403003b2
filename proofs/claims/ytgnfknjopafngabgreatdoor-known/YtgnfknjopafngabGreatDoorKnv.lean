import Derived.Lib.ConvBytes
import Derived.Deep.RegionHeld
import Derived.Test.YtgnfknjopafngabGreatDoorKnu
import Derived.Deep.WholeRow
set_option maxRecDepth 100000
set_option maxHeartbeats 8000000
namespace Go.Proofs.YtgnfknjopafngabGreatDoor
open Go.RowKit
theorem bytes_below(w:World)(e:TypeId)(s:ByteArray):Below w.heap.size w (Lib.bytesWorld w e s):=
 ⟨rfl,rfl,rfl,by rw[Lib.bytesWorld_size];omega,fun k hk=>Lib.bytesWorld_at_old w e s k hk⟩
theorem bytes_cells(w:World)(e:TypeId)(s:ByteArray)(j:Nat)(u:Value)(h:(s.data.toList.map byteV)[j]? = some u):(Lib.bytesWorld w e s).cell? ⟨w.heap.size,j,none⟩=some u:=by
 have hj:j<s.data.toList.length:=by have:=(List.getElem?_eq_some_iff.1 h).1;simpa using this
 rw[Lib.bytesWorld_cell w e s j (by simpa using hj)]
 rw[List.getElem?_map,List.getElem?_eq_getElem hj] at h
 rw[List.getD_eq_getElem?_getD,List.getElem?_eq_getElem hj]
 simpa [byteV] using h
theorem keep_start{wr:World}{k d:Nat}{v u:Value}(h:wr.cell? ⟨k,0,none⟩=some v)(h':wr.cell? ⟨d,1,none⟩=some u):wr.drew.cell? ⟨k,0,none⟩=some v/\wr.drew.cell? ⟨d,1,none⟩=some u:=⟨h,h'⟩
theorem keep_bytes{w:World}{k d:Nat}{v u:Value}(h:w.cell? ⟨k,0,none⟩=some v/\w.cell? ⟨d,1,none⟩=some u)(e:TypeId)(s:ByteArray):(Lib.bytesWorld w e s).cell? ⟨k,0,none⟩=some v/\(Lib.bytesWorld w e s).cell? ⟨d,1,none⟩=some u:=
 ⟨((bytes_below w e s).cell (p:=⟨k,0,none⟩) (World.block_lt_of_cell? _ _ h.1)).trans h.1,((bytes_below w e s).cell (p:=⟨d,1,none⟩) (World.block_lt_of_cell? _ _ h.2)).trans h.2⟩
theorem bytes_conv(s:ByteArray)(w:World):(convert 9 102 (.string s)).run Tryz.prog w=.ok (.slice (some ⟨w.heap.size,0,none⟩) s.size (grownCap w s.size 0 5)) (Lib.bytesWorld w 5 s):=
 Lib.run_convert_string_bytes w _ _ _ s Tryz.underlying9 Tryz.underlying102 Tryz.underlying5
theorem kLength_c(k d n c:Nat)(a:Option Addr)(w:World)(q0:w.cell? ⟨k,0,none⟩=some (.iface 57 (.pointer (some ⟨d,0,none⟩))))(q1:w.cell? ⟨d,1,none⟩=some (.slice a n c))(hc:n<=c/\c<=maxLen)(h1:16<=n)(h2:n<=256):Calls Tryz.prog 233 #[.pointer (some ⟨k,0,none⟩)] w fun e w'=>e=.returned (.int .i64 ((n-1) / 2:Nat))/\w=w':=by
 have n1:=nil_Sectors
 have n2:=meth_Sectors
 have cS:=dSectors_any d n w ⟨a,c,q1,hc.1,hc.2⟩
 clear q1 hc
 go_enter Tryz.func233,Tryz.ntmps233
 go_wp2_with (go_at_call 312;refine cS.mono ?_;rintro e w' ⟨rfl,rfl⟩)
 go_ret
 exact⟨ret_int (by omega),rfl⟩
theorem kStart_c(k d n c:Nat)(a:Option Addr)(o:Nat)(w:World)(q0:w.cell? ⟨k,0,none⟩=some (.iface 57 (.pointer (some ⟨d,0,none⟩))))(q1:w.cell? ⟨d,1,none⟩=some (.slice a n c))(hc:n<=c/\c<=maxLen)(h1:16<=n)(h2:n<=256)(ho:o<=1):Calls Tryz.prog 174 #[.pointer (some ⟨k,0,none⟩),.int .i64 o] w fun e w'=>e=.returned (.int .i64 (1+o*((n-1) / 2):Nat))/\w=w':=by
 have cL:=kLength_c k d n c a w q0 q1 hc h1 h2
 have hn:(n-1) / 2<=128:=by omega
 generalize (n-1) / 2=N at cL hn
 clear q0 q1 hc
 rcases Nat.lt_or_ge o 1 with h0|h0
 ·have e:o=0:=by omega
  subst e
  go_enter Tryz.func174,Tryz.ntmps174
  go_wp2_with (go_at_call 233;refine cL.mono ?_;rintro e w' ⟨rfl,rfl⟩)
  go_ret
  exact⟨ret_int (by simp),rfl⟩
 ·have e:o=1:=by omega
  subst e
  go_enter Tryz.func174,Tryz.ntmps174
  go_wp2_with (go_at_call 233;refine cL.mono ?_;rintro e w' ⟨rfl,rfl⟩)
  go_ret
  exact⟨ret_int (by simp),rfl⟩
theorem known_off{w:World}{k d half:Nat}{hv sv lv:Value}{D:M.Dk}(hk:KnownAt w k d half)(h:DiskIs w d hv sv lv D):¬ dFoot d hv sv lv k:=by
 unfold KnownAt at hk
 rintro (rfl|e|e|e)
 ·rw[h.blk] at hk;cases hk
 ·obtain⟨c,hc⟩:=h.held.type k e;rw[hc] at hk;cases hk
 ·obtain⟨c,hc⟩:=h.seen.type k e;rw[hc] at hk;cases hk
 ·obtain⟨c,hc⟩:=h.late.type k e;rw[hc] at hk;cases hk
theorem KnownAt.below{w w':World}{k d half:Nat}(h:KnownAt w k d half)(hb:Below w.heap.size w w'):KnownAt w' k d half:=(hb.block k (ges.1 h).1).trans h
theorem extract_list(S:ByteArray)(a b:Nat):(S.extract a b).data.toList=(S.data.toList.drop a).take (b-a):=by
 rw[ByteArray.data_extract,Array.toList_extract]
theorem pad_piece(l:List UInt8)(m:Nat)(h:m=min 64 l.length):M.pad (l.take m)=M.pad l:=by
 subst h
 unfold M.pad
 rw[List.take_take,List.length_take]
 congr 1
 ·rw[Nat.min_self_assoc]
  rcases Nat.le_total 64 l.length with h|h
  ·rw[Nat.min_eq_left h]
  ·rw[Nat.min_eq_right h,List.take_of_length_le ler,List.take_of_length_le h]
 ·congr 1
  omega
theorem body_seen(D:M.Dk)(n half:Nat)(t:List UInt8):∀ k,(D.body n half t k).seen.length=D.seen.length/\(D.body n half t k).left<=D.left/\(D.body n half t k).late.length<=D.late.length+k
 | 0=>⟨rfl,Int.le_refl _,Nat.le_refl _⟩
 | k+1=>by
  obtain⟨h1,h2,h3⟩:=body_seen D n half t k
  show ((D.body n half t k).write _ _).seen.length = _/\((D.body n half t k).write _ _).left<=_/\((D.body n half t k).write _ _).late.length<=_
  generalize D.body n half t k=E at h1 h2 h3
  unfold M.Dk.write
  split
  ·refine⟨by simpa using h1,?_,by show E.late.length<=_;omega⟩
   show (if 0<E.left then E.left-1 else E.left)<=_
   split <;> omega
  ·refine⟨by simpa using h1,?_,by simp;omega⟩
   show (if 0<E.left then E.left-1 else E.left)<=_
   split <;> omega
theorem kStore_any(k d half o n:Nat)(hv sv lv:Value)(D:M.Dk)(S:ByteArray)(w:World)(hk:KnownAt w k d half)(h:DiskIs w d hv sv lv D)(hn:D.seen.length=n)(h1:16<=n)(h2:n<=256)(ho:o<=1)(hl:D.left<=9223372036854775807)(hS:M.secN S.size<=(n-1) / 2)(hlen:D.late.length<=1000):
 Calls Tryz.prog 189 #[.pointer (some ⟨k,0,none⟩),.int .i64 o,.string S] w fun e w'=>(∃ v,e=.returned v)/\∃ lv',DiskIs w' d hv sv lv' (D.body n o S.data.toList (M.secN S.size))/\Chg (dFoot d hv sv lv) w w'/\(∀ j,lv'.ownBlock=some j->lv.ownBlock=some j\/w.heap.size<=j):=by
 have hSz:S.size<=8192:=by unfold M.secN at hS;omega
 have cS:=sectorsOf_any S.size w (by omega)
 have n1:=nil_Write
 have n2:=meth_Write
 have q0:w.cell? ⟨k,0,none⟩=some (.iface 57 (.pointer (some ⟨d,0,none⟩))):=by rw[cell_of_row w _ 0 _ _ (0,0) hk];rfl
 have HK:=hid hk
 have HD:=hid h
 have hsn:M.secN S.size<=128:=by omega
 clear hk h
 go_enter Tryz.func189,Tryz.ntmps189
 go_wp2_with (go_at_call 173;refine cS.mono ?_;rintro e w' ⟨rfl,rfl⟩)
 go_loopw [6,7,11] (fun _ _ i wr=>∃ j:Nat,i=.int .i64 j/\j<=M.secN S.size/\Hid (∃ lv',DiskIs wr d hv sv lv' (D.body n o S.data.toList j)/\Chg (dFoot d hv sv lv) w wr/\(∀ j,lv'.ownBlock=some j->lv.ownBlock=some j\/w.heap.size<=j))) (fun _ _ i _=>M.secN S.size-(intOf i).toNat)
 case atStart=>exact⟨0,rfl,Nat.zero_le _,lv,HD.out,Chg.refl _ _,fun _ h=>.inl h⟩
 case round=>
  obtain⟨j,rfl,hj,HE⟩:=hrel
  by_cases hjl:j<M.secN S.size
  ·obtain⟨lv',hE,hC,hN⟩:=HE.out
   have hS0:j*64<S.size:=by unfold M.secN at hjl;omega
   obtain⟨b1,b2,b3⟩:=body_seen D n o S.data.toList j
   have hkr:KnownAt wr k d half:=(hC.block k (ges.1 HK.out).1 (known_off HK.out HD.out)).trans HK.out
   obtain⟨sb,sc,_,_,esv,-,hs1,hs2,-⟩:=hE.seen.at (n:=0) (by omega)
   rw[b1,hn] at esv hs1
   have q2:wr.cell? ⟨d,1,none⟩=some (.slice (some ⟨sb,0,none⟩) n sc):=by rw[<-esv];exact(cell_of_row wr _ 1 _ _ (0,0) hE.blk).trans rfl
   have cSt:=fun wx q0 q1=>kStart_c k d n sc (some ⟨sb,0,none⟩) o wx q0 q1 ⟨hs1,hs2⟩ h1 h2 ho
   have q1:wr.cell? ⟨k,0,none⟩=some (.iface 57 (.pointer (some ⟨d,0,none⟩))):=by rw[cell_of_row wr _ 0 _ _ (0,0) hkr];rfl
   have hNj:1+o*((n-1) / 2)+j<n:=by
    rcases Nat.lt_or_ge o 1 with h0|h0
    ·have e:o=0:=by omega
     subst e
     omega
    ·have e:o=1:=by omega
     subst e
     omega
   have HB:Hid (∀ x,D.body n o S.data.toList (j+1)=(D.body n o S.data.toList j).write (1+o*((n-1) / 2)+j) x->True):=fun _ _=>trivial
   have hbs:D.body n o S.data.toList (j+1)=(D.body n o S.data.toList j).write (1+o*((n-1) / 2)+j) (M.chunk S.data.toList j):=rfl
   have cW:∀ (X:ByteArray) wx,Below wr.heap.size wr wx->M.pad X.data.toList=M.chunk S.data.toList j->X.size<=64->Calls Tryz.prog 314 #[.pointer (some ⟨d,0,none⟩),.int .i64 (((1+o*((n-1) / 2):Nat):Int)+(j:Int)),.slice (some ⟨wx.heap.size,0,none⟩) X.size (grownCap wx X.size 0 5)] (Lib.bytesWorld wx 5 X) fun e w'=>(∃ v,e=.returned v)/\∃ lv',DiskIs w' d hv sv lv' (D.body n o S.data.toList (j+1))/\Chg (dFoot d hv sv lv) w w'/\(∀ i,lv'.ownBlock=some i->lv.ownBlock=some i\/w.heap.size<=i)/\w'.cell? ⟨k,0,none⟩=some (.iface 57 (.pointer (some ⟨d,0,none⟩)))/\w'.cell? ⟨d,1,none⟩=some (.slice (some ⟨sb,0,none⟩) n sc):=by
    intro X wx hb hX hX2
    have hb2:=bt hb (bytes_below wx 5 X)
    have hl8:X.data.toList.length=X.size:=by simp
    have c:=dWrite_any d (1+o*((n-1) / 2)+j) wx.heap.size (grownCap wx X.size 0 5) hv sv lv' (D.body n o S.data.toList j) X.data.toList (Lib.bytesWorld wx 5 X) (hE.below hb2) (by rw[b1,hn];exact hNj) (by omega) (by omega) (fun i u hu=>bytes_cells wx _ X i u hu) (by rw[Lib.bytesWorld_size];omega) (by omega)
    rw[hl8,hX,<-hbs] at c
    refine c.mono ?_
    rintro e w' ⟨hv',lv2,k1,k2,k3⟩
    have hC2:Chg (dFoot d hv sv lv) w w':=by
     refine(hC.then (Chg.below (F:=fun _=>False) hb2) (fun _ _ f=>f.elim)).then k2 (fun i hi f=>?_)
     rcases f with f|f|f|f
     ·exact .inl f
     ·exact .inr (.inl f)
     ·exact .inr (.inr (.inl f))
     ·rcases hN i f with g|g
      ·exact .inr (.inr (.inr g))
      ·omega
    refine⟨hv',lv2,k1,hC2,fun i hi=>?_,hC2.cell q0 (known_off HK.out HD.out),by rw[<-esv];exact(cell_of_row w' _ 1 _ _ (0,0) k1.blk).trans rfl⟩
    rcases k3 i hi with f|f
    ·exact hN i f
    ·exact .inr (Nat.le_trans hC.size (Nat.le_trans hb2.size f))
   clear HB hbs hkr
   have hN1:1+o*((n-1) / 2)<=1000:=by omega
   generalize 1+o*((n-1) / 2)=N1 at cSt cW hN1
   have hcv:=bytes_conv
   clear hE hC
   have z1:(0:Int)<=(j:Int)*64:=by omega
   have z2:(j:Int)*64<=(S.size:Int):=by omega
   by_cases hf:j*64+64<=S.size
   ·have z3:(j:Int)*64+64<=(S.size:Int):=by omega
    have z4:¬ ((S.size:Int)<(j:Int)*64+64):=by omega
    have hw1:IntKind.i64.wrap ((j:Int)*64+64)=(j:Int)*64+64:=by rw[IntKind.wrap_i64];omega
    have hw2:IntKind.i64.wrap ((N1:Int)+(j:Int))=(N1:Int)+(j:Int):=by rw[IntKind.wrap_i64];omega
    have hmin:∀ w,(Builtin.min_ #[3,3] 3 #[.int .i64 ((j:Int)*64+64),.int .i64 (S.size:Int)]).run Tryz.prog w=.ok (.int .i64 ((j:Int)*64+64)) w:=fun w=>by rw[run_min_int2,if_neg z4]
    obtain⟨X,hX1,hX2,hsl⟩:∃ X:ByteArray,M.pad X.data.toList=M.chunk S.data.toList j/\X.size<=64/\∀ w,(Instr.slice 9 (.string S) (some (.int .i64 ((j:Int)*64))) (some (.int .i64 ((j:Int)*64+64))) none).run Tryz.prog w=.ok (.string X) w:=by
     refine⟨_,?_,?_,fun w=>run_slice_string w _ S _ _ _ _ Tryz.underlying9 z1 (by omega) z3⟩
     ·rw[extract_list,show ((j:Int)*64).toNat=64*j by omega,show ((j:Int)*64+64).toNat-64*j=64 by omega]
      exact pad_piece _ _ (by rw[List.length_drop];simp;omega)
     ·simp;omega
    have cW1:Calls Tryz.prog 314 #[.pointer (some ⟨d,0,none⟩),.int .i64 ((N1:Int)+(j:Int)),.slice (some ⟨wr.heap.size,0,none⟩) X.size (grownCap wr.drew X.size 0 5)] (Lib.bytesWorld wr.drew 5 X) fun e w'=>(∃ v,e=.returned v)/\Hid (∃ lv',DiskIs w' d hv sv lv' (D.body n o S.data.toList (j+1))/\Chg (dFoot d hv sv lv) w w'/\(∀ i,lv'.ownBlock=some i->lv.ownBlock=some i\/w.heap.size<=i))/\(w'.cell? ⟨k,0,none⟩=some (.iface 57 (.pointer (some ⟨d,0,none⟩)))/\w'.cell? ⟨d,1,none⟩=some (.slice (some ⟨sb,0,none⟩) n sc)):=
     (cW X wr.drew (below_same wr 1) hX1 hX2).mono fun e w' h=>by
       obtain⟨h1,lv2,h2,h3,h4,h5⟩:=h
       exact⟨h1,⟨lv2,h2,h3,h4⟩,h5⟩
    clear cW z1 z2 z3 z4 hX1 hX2 b1 b2 b3 hN HE cS q0 HK HD hS0 hlen hl hn esv hs1 hs2
    go_wp2_with fail
    go_region_held (fun w'=>w'.cell? ⟨k,0,none⟩=some (.iface 57 (.pointer (some ⟨d,0,none⟩)))/\w'.cell? ⟨d,1,none⟩=some (.slice (some ⟨sb,0,none⟩) n sc)) (first|exact keep_start q1 q2|assumption|exact keep_bytes ‹_/\_› _ _)
     (first
     | (go_at_call 174;refine(cSt _ (‹_/\_›).1 (‹_/\_›).2).mono ?_;rintro e w5 ⟨rfl,rfl⟩)
     | (go_at_call 314;refine cW1.mono ?_;rintro e w6 ⟨⟨v6,rfl⟩,HX6,hq6⟩))
    all_goals
     go_wp2
     go_roundw
     case rel=>exact⟨j+1,by go_num,by omega,HX6⟩
     case measure=>simp[intOf];omega
   ·have z3:(S.size:Int)<=(S.size:Int):=Int.le_refl _
    have z4:(S.size:Int)<(j:Int)*64+64:=by omega
    have hw1:IntKind.i64.wrap ((j:Int)*64+64)=(j:Int)*64+64:=by rw[IntKind.wrap_i64];omega
    have hw2:IntKind.i64.wrap ((N1:Int)+(j:Int))=(N1:Int)+(j:Int):=by rw[IntKind.wrap_i64];omega
    have hmin:∀ w,(Builtin.min_ #[3,3] 3 #[.int .i64 ((j:Int)*64+64),.int .i64 (S.size:Int)]).run Tryz.prog w=.ok (.int .i64 (S.size:Int)) w:=fun w=>by rw[run_min_int2,if_pos z4]
    obtain⟨X,hX1,hX2,hsl⟩:∃ X:ByteArray,M.pad X.data.toList=M.chunk S.data.toList j/\X.size<=64/\∀ w,(Instr.slice 9 (.string S) (some (.int .i64 ((j:Int)*64))) (some (.int .i64 (S.size:Int))) none).run Tryz.prog w=.ok (.string X) w:=by
     refine⟨_,?_,?_,fun w=>run_slice_string w _ S _ _ _ _ Tryz.underlying9 z1 z2 z3⟩
     ·rw[extract_list,show ((j:Int)*64).toNat=64*j by omega,show ((S.size:Int)).toNat-64*j=S.size-64*j by omega]
      exact pad_piece _ _ (by rw[List.length_drop];simp;omega)
     ·simp;omega
    have cW1:Calls Tryz.prog 314 #[.pointer (some ⟨d,0,none⟩),.int .i64 ((N1:Int)+(j:Int)),.slice (some ⟨wr.heap.size,0,none⟩) X.size (grownCap wr.drew X.size 0 5)] (Lib.bytesWorld wr.drew 5 X) fun e w'=>(∃ v,e=.returned v)/\Hid (∃ lv',DiskIs w' d hv sv lv' (D.body n o S.data.toList (j+1))/\Chg (dFoot d hv sv lv) w w'/\(∀ i,lv'.ownBlock=some i->lv.ownBlock=some i\/w.heap.size<=i))/\(w'.cell? ⟨k,0,none⟩=some (.iface 57 (.pointer (some ⟨d,0,none⟩)))/\w'.cell? ⟨d,1,none⟩=some (.slice (some ⟨sb,0,none⟩) n sc)):=
     (cW X wr.drew (below_same wr 1) hX1 hX2).mono fun e w' h=>by
       obtain⟨h1,lv2,h2,h3,h4,h5⟩:=h
       exact⟨h1,⟨lv2,h2,h3,h4⟩,h5⟩
    clear cW z1 z2 z3 z4 hX1 hX2 b1 b2 b3 hN HE cS q0 HK HD hS0 hlen hl hn esv hs1 hs2
    go_wp2_with fail
    go_region_held (fun w'=>w'.cell? ⟨k,0,none⟩=some (.iface 57 (.pointer (some ⟨d,0,none⟩)))/\w'.cell? ⟨d,1,none⟩=some (.slice (some ⟨sb,0,none⟩) n sc)) (first|exact keep_start q1 q2|assumption|exact keep_bytes ‹_/\_› _ _)
     (first
     | (go_at_call 174;refine(cSt _ (‹_/\_›).1 (‹_/\_›).2).mono ?_;rintro e w5 ⟨rfl,rfl⟩)
     | (go_at_call 314;refine cW1.mono ?_;rintro e w6 ⟨⟨v6,rfl⟩,HX6,hq6⟩))
    all_goals
     go_wp2
     go_roundw
     case rel=>exact⟨j+1,by go_num,by omega,HX6⟩
     case measure=>simp[intOf];omega
  ·have hjj:j=M.secN S.size:=by omega
   subst hjj
   go_wp2
   go_end0
   exact⟨⟨_,rfl⟩,HE.out⟩
namespace M
structure Sane (n L:Nat) (E:Dk):Prop where
 held:E.held.length=n
 seen:E.seen.length=n
 late:∀ p∈E.late,p.1<n
 few:E.late.length<=L
 left:E.left<=9223372036854775807
theorem Sane.write{n L i:Nat}{E:Dk}(h:Sane n L E)(hi:i<n)(x:List UInt8):Sane n (L+1) (E.write i x):=by
 have hl:(if 0<E.left then E.left-1 else E.left)<=9223372036854775807:=by have:=h.left;split <;> omega
 unfold Dk.write
 split
 ·exact⟨h.held,by rw[List.length_set];exact h.seen,h.late,Nat.le_succ_of_le h.few,hl⟩
 ·refine⟨h.held,by rw[List.length_set];exact h.seen,?_,?_,hl⟩
  ·intro p hp
   rcases List.mem_append.1 hp with hp|hp
   ·exact h.late p hp
   ·rw[List.mem_singleton.1 hp];exact hi
  ·have:=h.few
   simp only[List.length_append,List.length_cons,List.length_nil]
   omega
theorem Sane.sync{n L:Nat}{E:Dk}(h:Sane n L E):Sane n L E.sync:=by
 have hl:(if 0<E.left then E.left-1 else E.left)<=9223372036854775807:=by have:=h.left;split <;> omega
 unfold Dk.sync
 split
 ·exact⟨h.held,h.seen,h.late,h.few,hl⟩
 ·exact⟨by rw[putAll_len];exact h.held,h.seen,fun p hp=>(by cases hp),Nat.zero_le _,hl⟩
theorem half_lt{n o j:Nat}(ho:o<=1)(hj:j<(n-1) / 2):1+o*((n-1) / 2)+j<n:=by
 rcases Nat.lt_or_ge o 1 with h0|h0
 ·have e:o=0:=by omega
  subst e
  omega
 ·have e:o=1:=by omega
  subst e
  omega
theorem Sane.body{n L o:Nat}{E:Dk}(h:Sane n L E)(ho:o<=1)(t:List UInt8):∀ k,k<=(n-1) / 2->Sane n (L+k) (E.body n o t k)
 | 0,_=>h
 | k+1,hk=>by
  have:=Sane.body h ho t k (by omega)
  exact this.write (half_lt ho (by omega)) _
theorem Rest.sane{d:Dk}{n half:Nat}{t:List UInt8}(h:Rest d n half t)(hl:d.left<=9223372036854775807):Sane n 0 d:=
 ⟨by rw[h.same];exact h.lies.len,h.lies.len,fun p hp=>(by rw[h.late] at hp;cases hp),by rw[h.late];exact Nat.le_refl _,hl⟩
end M
theorem dJoin_any(v:Value)(l:List (List UInt8))(B:Nat)(w:World)(h:w.ownsRow B 9 1 v l.length (l.map strV))(hn:l.length<=1000)(hl:(M.joinS [10,10] l).length<=1000000):
 Calls Tryz.prog 188 #[v] w fun e w'=>e=.returned (.string ⟨(M.joinS [10,10] l).toArray⟩)/\Below w.heap.size w w':=by
 have c:=join_lib2 l ⟨#[10,10]⟩ v B w h hn (Nat.le_trans hl (by decide))
 rw[show (ByteArray.mk #[10,10]).data.toList=[10,10] from rfl] at c
 obtain⟨a,cp,rfl⟩:=own_form h
 generalize (⟨(M.joinS [10,10] l).toArray⟩:ByteArray)=S at c ⊢
 clear h
 go_enter Tryz.func188,Tryz.ntmps188
 go_wp2_with fail
 refine c.mono ?_
 rintro e w2 ⟨rfl,hB⟩
 go_wp2
 go_ret
 exact⟨rfl,hB⟩
theorem keep_alloc{w:World}{k:Nat}{v:Value}(h:w.cell? ⟨k,0,none⟩=some v)(o:Obj):(w.alloc o).cell? ⟨k,0,none⟩=some v:=(World.cell?_alloc_past _ _ _ (World.block_lt_of_cell? _ _ h)).trans h
theorem KnownAt.cell0{w:World}{k d half:Nat}(h:KnownAt w k d half):w.cell? ⟨k,0,none⟩=some (.iface 57 (.pointer (some ⟨d,0,none⟩))):=by rw[cell_of_row w _ 0 _ _ (0,0) h];rfl
theorem KnownAt.chg{F:Nat->Prop}{w w':World}{k d half:Nat}(h:KnownAt w k d half)(hc:Chg F w w')(hn:¬ F k):KnownAt w' k d half:=(hc.block k (ges.1 h).1 hn).trans h
theorem kSave_any(k d half n:Nat)(hv sv lv xv:Value)(D:M.Dk)(l:List (List UInt8))(B:Nat)(w:World)(hk:KnownAt w k d half)(h:DiskIs w d hv sv lv D)(hs:M.Sane n 0 D)(h1:16<=n)(h2:n<=256)(ho:half<=1)
 (hx:w.ownsRow B 9 1 xv l.length (l.map strV)) (hxn:l.length<=1000) (hf:M.secN (M.joinS [10,10] l).length<=(n-1) / 2) (hl:(M.joinS [10,10] l).length<65536):
 Calls Tryz.prog 137 #[.pointer (some ⟨k,0,none⟩),xv] w fun e w'=>(∃ v,e=.returned v)/\KnownAt w' k d (1-half)/\∃ lv',DiskIs w' d hv sv lv' (D.save n (1-half) (M.joinS [10,10] l))/\Chg (fun b=>b=k\/dFoot d hv sv lv b) w w'/\(∀ j,lv'.ownBlock=some j->lv.ownBlock=some j\/w.heap.size<=j):=by
 have cJ:=dJoin_any xv l B w hx hxn (by omega)
 obtain⟨ax,cx,ex⟩:=own_form hx
 subst ex
 generalize hS:(⟨(M.joinS [10,10] l).toArray⟩:ByteArray)=S at cJ
 have hSd:S.data.toList=M.joinS [10,10] l:=by rw[<-hS]
 have hSs:S.size=(M.joinS [10,10] l).length:=by rw[<-hSd];simp
 have HK:=hid hk
 have HD:=hid h
 have HS:=hid hs
 have HE:Hid (D.save n (1-half) (M.joinS [10,10] l)=(((D.body n (1-half) S.data.toList (M.secN S.size)).sync).write 0 (M.pad (M.dHead (1-half) S.size))).sync):=by
  show _ = _
  rw[hSd,hSs]
  rfl
 rw[<-hSs] at hf hl
 have hoff:=known_off hk h
 have c1:w.cell? ⟨k,1,none⟩=some (.int .i64 half):=by rw[cell_of_row w _ 1 _ _ (0,0) hk];rfl
 have hh:(1:Int)-(half:Int)=((1-half:Nat):Int):=by omega
 clear hS hSd hSs hk h hs hx
 go_enter Tryz.func137,Tryz.ntmps137
 go_wp2_with (go_at_call 188;refine cJ.mono ?_;rintro e w1 ⟨rfl,hB1⟩;have k1:KnownAt w1 k d half:=HK.out.below hB1;have c1':w1.cell? ⟨k,1,none⟩=some (.int .i64 half):=(cell_of_row w1 _ 1 _ _ (0,0) k1).trans rfl)
 have e0:=HD.out.below hB1
 have cS:=kStore_any k d half (1-half) n hv sv lv D S w1 k1 e0 HS.out.seen h1 h2 (by omega) HS.out.left hf (by have:=HS.out.few;omega)
 refine cS.mono ?_
 rintro e w2 ⟨⟨v2,rfl⟩,lv2,e2,g2,m2⟩
 clear cS cJ
 have s2:M.Sane n (0+M.secN S.size) (D.body n (1-half) S.data.toList (M.secN S.size)):=HS.out.body (by omega) _ _ hf
 have hsz:M.secN S.size<=128:=by omega
 have k2:KnownAt w2 k d half:=k1.chg g2 hoff
 have q2:=k2.cell0
 have cY:=dSync_any d hv sv lv2 _ w2 e2 s2.left (by rw[s2.held];exact s2.late) (by have:=s2.few;omega)
 have n1:=nil_Sync
 have n2:=meth_Sync
 have G2:Chg (dFoot d hv sv lv) w w2:=(Chg.below (F:=fun _=>False) hB1).weak (fun _ _ f=>f.elim) |>.then g2 (fun _ _ e=>e)
 have M2:∀ j,lv2.ownBlock=some j->lv.ownBlock=some j\/w.heap.size<=j:=fun j hj=>(m2 j hj).imp id (Nat.le_trans hB1.size)
 generalize hE1:D.body n (1-half) S.data.toList (M.secN S.size)=E1 at *
 clear e2 g2 m2 c1' k1 e0 hB1
 go_wp2_with fail
 refine cY.mono ?_
 rintro e w3 ⟨⟨v3,rfl⟩,lv3,e3,g3,m3⟩
 clear cY
 have s3:=s2.sync
 have foot:∀ lvx,(∀ j,lvx.ownBlock=some j->lv.ownBlock=some j\/w.heap.size<=j)->∀ b,b<w.heap.size->dFoot d hv sv lvx b->dFoot d hv sv lv b:=fun lvx hm b hb f=>by
  rcases f with f|f|f|f
  ·exact .inl f
  ·exact .inr (.inl f)
  ·exact .inr (.inr (.inl f))
  ·rcases hm b f with g|g
   ·exact .inr (.inr (.inr g))
   ·omega
 have hsz2:=G2.size
 have k3:KnownAt w3 k d half:=k2.chg g3 (fun f=>hoff (foot lv2 M2 k (ges.1 HK.out).1 f))
 have q3:=k3.cell0
 have G3:Chg (dFoot d hv sv lv) w w3:=G2.then g3 (foot lv2 M2)
 have M3:∀ j,lv3.ownBlock=some j->lv.ownBlock=some j\/w.heap.size<=j:=fun j hj=>by
  rcases m3 j hj with g|g
  ·exact M2 j g
  ·exact .inr (by omega)
 generalize hE2:E1.sync=E2 at *
 have cH:=fun wx=>writeHead_any (1-half) S.size wx (by omega) hl
 have cW:∀ wx,Below w3.heap.size w3 wx->Calls Tryz.prog 314 #[.pointer (some ⟨d,0,none⟩),.int .i64 0,.slice (some ⟨wx.heap.size,0,none⟩) 3 3] (wx.alloc (.cells ((M.dHead (1-half) S.size).map byteV).toArray 5)) fun e w'=>(∃ v,e=.returned v)/\Hid (∃ lv4,DiskIs w' d hv sv lv4 (E2.write 0 (M.pad (M.dHead (1-half) S.size)))/\KnownAt w' k d half/\Chg (dFoot d hv sv lv) w w'/\(∀ j,lv4.ownBlock=some j->lv.ownBlock=some j\/w.heap.size<=j))/\w'.cell? ⟨k,0,none⟩=some (.iface 57 (.pointer (some ⟨d,0,none⟩))):=by
  intro wx hb
  have hb2:Below w3.heap.size w3 (wx.alloc (.cells ((M.dHead (1-half) S.size).map byteV).toArray 5)):=bt hb ((Below.refl _ wx).alloc ler _)
  have c:=dWrite_any d 0 wx.heap.size 3 hv sv lv3 E2 (M.dHead (1-half) S.size) (wx.alloc (.cells ((M.dHead (1-half) S.size).map byteV).toArray 5)) (e3.below hb2) (by rw[s3.seen];omega) s3.left (by simp[M.dHead]) (fun j u hu=>new_at wx _ _ j u hu) (by simp) (by have:=s3.few;omega)
  refine Calls.mono c ?_
  rintro e w' ⟨h9,lv4,e4,g4,m4⟩
  have hsz3:=G3.size
  have hsz4:=hb2.size
  have G4:Chg (dFoot d hv sv lv) w w':=(G3.then (Chg.below (F:=fun _=>False) hb2) (fun _ _ f=>f.elim)).then g4 (foot lv3 M3)
  have k4:KnownAt w' k d half:=HK.out.chg G4 hoff
  refine⟨h9,⟨lv4,e4,k4,G4,fun j hj=>?_⟩,k4.cell0⟩
  rcases m4 j hj with g|g
  ·exact M3 j g
  ·exact .inr (by omega)
 have s4:M.Sane n (0+M.secN S.size+1) (E2.write 0 (M.pad (M.dHead (1-half) S.size))):=s3.write (by omega) _
 have n3:=nil_Write
 have n4:=meth_Write
 have cH1:=cH w3.drew
 have cW1:=cW w3.drew (below_same w3 1)
 clear e3 g3 m3 q2 k2 c1 cH cW n1 n2
 go_wp2_with fail
 go_region_held (fun w'=>w'.cell? ⟨k,0,none⟩=some (.iface 57 (.pointer (some ⟨d,0,none⟩)))) (first|exact q3|assumption|exact keep_alloc q3 _)
  (first
  | (go_at_call 190;refine cH1.mono ?_;rintro e w5 ⟨rfl,rfl⟩)
  | (go_at_call 314;refine cW1.mono ?_;rintro e w6 ⟨⟨v6,rfl⟩,HX6,hq6⟩))
 all_goals
  obtain⟨lv4,e4,k4,G4,M4⟩:=HX6.out
  have cY:=dSync_any d hv sv lv4 _ w6 e4 s4.left (by rw[s4.held];exact s4.late) (by have:=s4.few;omega)
  have n1:=nil_Sync
  have n2:=meth_Sync
  have HE4:Hid (D.save n (1-half) (M.joinS [10,10] l)=(E2.write 0 (M.pad (M.dHead (1-half) S.size))).sync):=HE.out
  generalize (E2.write 0 (M.pad (M.dHead (1-half) S.size))).sync=E4 at cY HE4
  clear e4 HX6 s4 s3 s2 cH1 cW1 n3 n4 q3 k3
  go_wp2_with fail
  refine cY.mono ?_
  rintro e w7 ⟨⟨v7,rfl⟩,lv7,e7,g7,m7⟩
  have hsz7:=G4.size
  have k7:KnownAt w7 k d half:=k4.chg g7 (fun f=>hoff (foot lv4 M4 k (ges.1 HK.out).1 f))
  have G7:Chg (dFoot d hv sv lv) w w7:=G4.then g7 (foot lv4 M4)
  have c7:w7.cell? ⟨k,1,none⟩=some (.int .i64 half):=(cell_of_row w7 _ 1 _ _ (0,0) k7).trans rfl
  have f7:w7.frozen? ⟨k,1,none⟩=false:=frozen_of_row w7 _ _ _ _ k7
  have hset:=setCell_grown w7 k 1 (.int .i64 (1-half:Nat))
  have hcs:Chg (fun b=>b=k) w7 (w7.setCell ⟨k,1,none⟩ (.int .i64 (1-half:Nat))):=Chg.grown hset (fun b e _=>(Option.some.inj e).symm)
  have HZ:Hid (KnownAt (w7.setCell ⟨k,1,none⟩ (.int .i64 (1-half:Nat))) k d (1-half)/\∃ lv',DiskIs (w7.setCell ⟨k,1,none⟩ (.int .i64 (1-half:Nat))) d hv sv lv' (D.save n (1-half) (M.joinS [10,10] l))/\Chg (fun b=>b=k\/dFoot d hv sv lv b) w (w7.setCell ⟨k,1,none⟩ (.int .i64 (1-half:Nat)))/\(∀ j,lv'.ownBlock=some j->lv.ownBlock=some j\/w.heap.size<=j)):=by
   refine⟨heap_setCell_same w7 k 1 _ _ _ k7,lv7,?_,(G7.weak (fun b _ f=>.inr f)).then hcs (fun b _ e=>.inl e),fun j hj=>?_⟩
   ·rw[HE4.out]
    exact e7.chg hcs (fun b e cur fz=>by subst e;unfold KnownAt at k7;rw[k7];intro e;cases e) (fun b f e=>by subst e;exact known_off k7 e7 f)
   ·rcases m7 j hj with g|g
    ·exact M4 j g
    ·exact .inr (by omega)
  clear e7 g7 m7 k7 G7 hset hcs cY HE4 M4 G4 k4
  go_wp2
  go_end0
  exact⟨⟨_,rfl⟩,HZ.out⟩
theorem DiskIs.diskAt{w:World}{d:Nat}{hv sv lv:Value}{D:M.Dk}(h:DiskIs w d hv sv lv D):DiskAt w d hv sv lv D.left D.dead D.held D.seen:=⟨h.blk,h.held,h.seen,h.apart⟩
theorem chunks_snoc(t:List UInt8)(j:Nat):(List.range (j+1)).flatMap (M.chunk t)=(List.range j).flatMap (M.chunk t)++M.chunk t j:=by
 rw[List.range_succ,List.flatMap_append];simp
theorem chunks_len(t:List UInt8):∀ j,((List.range j).flatMap (M.chunk t)).length=64*j
 | 0=>rfl
 | j+1=>by rw[chunks_snoc,List.length_append,chunks_len t j,show (M.chunk t j).length=64 from M.pad_len _];omega
theorem BytesAt.below{B b:Nat}{l:List UInt8}{w w':World}(h:BytesAt B b l w)(hb:Below w.heap.size w w'):BytesAt B b l w':=by
 have key:∀ p,BuiltAt B b p (l.map byteV) w->BuiltAt B b p (l.map byteV) w':=by
  rintro p ⟨h1,v,h2,h3,h4⟩
  exact⟨h1,v,(hb.block b (ges.1 h2).1).trans h2,own_below h3 hb,h4⟩
 rcases h with h|h
 ·exact .inl (key _ h)
 ·exact .inr (key _ h)
theorem load_any(k d n half:Nat)(hv sv lv:Value)(D:M.Dk)(t:List UInt8)(w:World)(hk:KnownAt w k d half)(h:DiskIs w d hv sv lv D)(hl:M.Lies D.seen n half t)(h1:16<=n)(h2:n<=256):
 Calls Tryz.prog 132 #[.pointer (some ⟨k,0,none⟩),.int .i64 t.length] w fun e w'=>e=.returned (.string ⟨t.toArray⟩)/\Below w.heap.size w w':=by
 have hsm:=hl.small
 have hft:=hl.fits
 have hon:=hl.one
 have cN:=fun wx=>sectorsOf_any t.length wx (by omega)
 have hkl:k<w.heap.size:=(ges.1 hk).1
 have HK:=hid hk
 have HD:=hid h
 have HL:=hid hl
 have hNj:∀ j,j<M.secN t.length->1+half*((n-1) / 2)+j<n:=by
  intro j hj
  rcases Nat.lt_or_ge half 1 with h0|h0
  ·have e:half=0:=by omega
   subst e
   omega
  ·have e:half=1:=by omega
   subst e
   omega
 have cS:∀ wx,Below w.heap.size w wx->Calls Tryz.prog 174 #[.pointer (some ⟨k,0,none⟩),.int .i64 half] wx fun e w'=>e=.returned (.int .i64 (1+half*((n-1) / 2):Nat))/\wx=w':=fun wx hb=>
  kStart_any k d half n half wx (KnownAt.below HK.out hb) (by have:=(HD.out.below hb).secsOf (by rw[HL.out.len];omega);rw[HL.out.len] at this;exact this) h1 h2 hon
 have cT:∀ wx (j:Nat),Below w.heap.size w wx->j<M.secN t.length->Calls Tryz.prog 130 #[.pointer (some ⟨k,0,none⟩),.int .i64 (((1+half*((n-1) / 2):Nat):Int)+(j:Int))] wx fun e w'=>e=.returned (.agg ((M.chunk t j).map byteV).toArray)/\Below wx.heap.size wx w':=fun wx j hb hj=>by
  have hlt:1+half*((n-1) / 2)+j<D.seen.length:=by rw[HL.out.len];exact hNj j hj
  have c:=sector_any k d half (1+half*((n-1) / 2)+j) hv sv lv D.left D.dead D.held D.seen wx (KnownAt.below HK.out hb) (HD.out.below hb).diskAt hlt
  have e:D.seen[1+half*((n-1) / 2)+j]=M.chunk t j:=by
   have:=HL.out.at_ j hj
   rw[List.getElem?_eq_getElem hlt] at this
   exact Option.some.inj this
  rw[e] at c
  exact c
 have hN:(n-1) / 2<=128:=by omega
 have hst:1+half*((n-1) / 2)<=129:=by
  rcases Nat.lt_or_ge half 1 with h0|h0
  ·have e:half=0:=by omega
   subst e
   omega
  ·have e:half=1:=by omega
   subst e
   omega
 have hs8:M.secN t.length<=128:=by omega
 have cR:=Tryz.Builder_String_any
 have HT:Hid (((List.range (M.secN t.length)).flatMap (M.chunk t)).take t.length=t):=M.chunks_all t
 clear hk h hl
 generalize hst0:1+half*((n-1) / 2)=st at cS cT hst hNj
 clear hst0
 go_enter Tryz.func132,Tryz.ntmps132
 go_wp2_with (first
  | (go_at_call 173;refine(cN _).mono ?_;rintro e w' ⟨rfl,rfl⟩))
 have HI0:BytesAt w.heap.size w.heap.size [] (w.alloc (.cells #[.pointer none,.slice none 0 0] 207)):=Lib.fresh_isBuilder _ _ w
 have hB:Below w.heap.size w (w.alloc (.cells #[.pointer none,.slice none 0 0] 207)):=(Below.refl _ w).alloc ler _
 generalize w.alloc (.cells #[.pointer none,.slice none 0 0] 207)=A at HI0 hB
 have HI:=hid HI0
 clear HI0 cN
 go_loopw [6,7,10] (fun _ _ i wr=>∃ j:Nat,i=.int .i64 j/\j<=M.secN t.length/\Hid (BytesAt w.heap.size w.heap.size ((List.range j).flatMap (M.chunk t)) wr/\Below w.heap.size w wr)) (fun _ _ i _=>M.secN t.length-(intOf i).toNat)
 case atStart=>exact⟨0,rfl,Nat.zero_le _,HI.out,hB⟩
 case round=>
  obtain⟨j,rfl,hj,HE⟩:=hrel
  obtain⟨hE1,hE2⟩:=HE.out
  have hk0:KnownAt wr k d half:=KnownAt.below HK.out hE2
  have q1:wr.cell? ⟨k,1,none⟩=some (.int .i64 half):=(cell_of_row wr _ 1 _ _ (0,0) hk0).trans rfl
  by_cases hjl:j<M.secN t.length
  ·have cS':=cS wr hE2
   have cT':=cT wr j hE2 hjl
   have h64:(M.chunk t j).length=64:=M.pad_len _
   have hSC:∀ (W:World) (c:Array Value),c.size=64->(storeCells ⟨W.heap.size,0,none⟩ (List.map byteV (M.chunk t j)) 0).run Tryz.prog (W.alloc (.cells c 232))=.ok () (W.alloc (.cells (List.map byteV (M.chunk t j)).toArray 232)):=fun W c hc=>
    run_storeCells_new W 232 c (List.map byteV (M.chunk t j)).toArray (by rw[arrSize];simp[h64]) (by rw[hc];simp[h64]) (by simp[byteV,Value.oneCell'])
   clear hk0 hE1
   go_wp2_with (first
    | (go_at_call 174;refine cS'.mono ?_;rintro e w' ⟨rfl,rfl⟩)
    | (go_at_call 130;refine cT'.mono ?_;rintro e w2 ⟨rfl,hb2⟩)
    | (go_at_call 175
       have hg:∀ i u,((M.chunk t j).map byteV)[i]? = some u->(w2.alloc (.cells (List.map byteV (M.chunk t j)).toArray 232)).cell? ⟨w2.heap.size,i,none⟩=some u:=fun i u hu=>new_at w2 _ _ i u hu
       have hbA:Below wr.heap.size wr (w2.alloc (.cells (List.map byteV (M.chunk t j)).toArray 232)):=hb2.alloc hb2.size _
       have hbs:w2.heap.size<(w2.alloc (.cells (List.map byteV (M.chunk t j)).toArray 232)).heap.size:=by simp
       generalize w2.alloc (.cells (List.map byteV (M.chunk t j)).toArray 232)=A2 at hg hbA hbs ⊢
       have hws:w.heap.size<w2.heap.size:=by
        have:=hb2.size
        have h5:w.heap.size<wr.heap.size:=by
         rcases HE.out.1 with h|h
         ·exact h.lt
         ·exact h.lt
        omega
       have cW:=bWrite_any w.heap.size w.heap.size w2.heap.size 64 _ _ A2 (HE.out.1.below hbA) (by omega) hg (by omega) (by rw[chunks_len,h64];omega)
       rw[h64,<-chunks_snoc] at cW
       refine cW.mono ?_
       rintro e w3 ⟨⟨v3,rfl⟩,h31,h32⟩
       have HF:Hid (BytesAt w.heap.size w.heap.size ((List.range (j+1)).flatMap (M.chunk t)) w3/\Below w.heap.size w w3):=⟨h31,(hE2.trans (hbA.mono hE2.size)).trans h32⟩
       clear h31 h32 hg hbA hbs cW))
   refine⟨⟨j+1,rfl,hjl,HF.out⟩,?_⟩
   simp only[intOf]
   omega
  ·have e:j=M.secN t.length:=by omega
   subst e
   have hlL:((List.range (M.secN t.length)).flatMap (M.chunk t)).length=64*M.secN t.length:=chunks_len t _
   have hle:t.length<=64*M.secN t.length:=by unfold M.secN;omega
   generalize (List.range (M.secN t.length)).flatMap (M.chunk t)=L at hE1 HT hlL
   rw[<-hlL] at hle
   clear hlL HE
   have cR':=cR w.heap.size w.heap.size _ wr hE1 hE2.size
   clear hE1 hk0
   go_wp2_with (first
    | (go_at_call 126;refine cR'.mono ?_;rintro e w2 ⟨rfl,hb2⟩))
   go_ret
   refine⟨?_,hE2.trans hb2⟩
   show Ending.returned (.string ((⟨L.toArray⟩:ByteArray).extract 0 t.length)) = _
   congr 2
   rw[ByteArray.ext_iff,ByteArray.data_extract]
   apply Array.toList_inj.1
   rw[Array.toList_extract]
   exact HT.out
end Go.Proofs.YtgnfknjopafngabGreatDoor
