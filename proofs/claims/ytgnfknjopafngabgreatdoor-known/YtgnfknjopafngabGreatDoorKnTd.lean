import Derived.Test.YtgnfknjopafngabGreatDoorKnTb
set_option maxRecDepth 100000
set_option maxHeartbeats 16000000
namespace Go.Proofs.YtgnfknjopafngabGreatDoor
open Go.RowKit Go.Maps
def flC(f:M.Fa):Array Value:=#[.int .i64 f.kind,.int .i64 f.which,.int .i64 f.line,.string ⟨f.name.toArray⟩]
def fI:Sum M.Fa (List M.Pk)->M.Fa
 | .inl f=>f
 | .inr _=>M.okFa
def aI(l:List M.Pk):Sum M.Fa (List M.Pk)->List M.Pk
 | .inl _=>l
 | .inr all=>all
structure St (w0:World) (B:Nat) (W:World) (x:Nat) (l:List M.Pk) (fs:List (Nat × M.Fa)):Prop where
 xat:XAt W B x 16 l
 low:Below B w0 W
 flt:∀ p∈fs,W.heap[p.1]? = some (.cells (flC p.2) 33 (0,0))
 bB:B<=W.heap.size
theorem St.later{w0 W W':World}{B x:Nat}{l:List M.Pk}{fs:List (Nat × M.Fa)}(h:St w0 B W x l fs)(hb:Below W.heap.size W W'):St w0 B W' x l fs:=by
 obtain⟨d,s,k,b,half,hv,sv,lv,D,h1,h2,h3⟩:=h.xat
 exact⟨⟨d,s,k,b,half,hv,sv,lv,D,h1.below hb,h2,h3⟩,h.low.trans (hb.mono h.bB),fun p hp=>(hb.block _ (ges.1 (h.flt p hp)).1).trans (h.flt p hp),Nat.le_trans h.bB hb.size⟩
theorem St.fault{w0 W:World}{B x:Nat}{l:List M.Pk}{fs:List (Nat × M.Fa)}(h:St w0 B W x l fs)(f:M.Fa):St w0 B (W.alloc (.cells (flC f) 33)) x l ((W.heap.size,f) :: fs):=by
 have h1:=h.later ((Below.refl _ W).alloc ler (.cells (flC f) 33))
 refine⟨h1.xat,h1.low,fun p hp=>?_,h1.bB⟩
 rcases List.mem_cons.1 hp with rfl|hp
 ·exact heap_alloc_new W _
 ·exact h1.flt p hp
theorem St.turned{w0 w w':World}{B x:Nat}{l:List M.Pk}{fs:List (Nat × M.Fa)}(h:St w0 B w x l fs)(R:Sum M.Fa (List M.Pk)){e:Ending}(hp:XPost R B x 16 w e w'):e=.returned (faV (fI R))/\St w0 B w' x (aI l R) fs:=by
 cases R with
 | inl f=>exact⟨hp.1,h.later hp.2.2.2⟩
 | inr all=>exact⟨hp.1,hp.2.1,h.low.trans hp.2.2.low,fun p hq=>hp.2.2.flt _ _ _ (h.flt p hq),Nat.le_trans h.bB hp.2.2.low.size⟩
theorem strs_new2(w:World)(T:List ByteArray):StrsIn (w.alloc (.cells (T.map Value.string).toArray 9)) (.slice (some ⟨w.heap.size,0,none⟩) T.length T.length) T:=strs_blk (heap_alloc_new w _)
theorem st_inst{w0 W:World}{B x:Nat}{l:List M.Pk}{fs:List (Nat × M.Fa)}(h:St w0 B W x l fs)(T:List ByteArray)(hT:T.length<=100)(hs:∀ t∈T,t.size<=1000)(R:Sum M.Fa (List M.Pk))(hR:M.installedS l (T.map fun t=>t.data.toList) (24*(((16:Nat):Int)-8))=R):
 Calls Tryz.prog 22 #[.pointer (some ⟨x,0,none⟩),.slice (some ⟨W.heap.size,0,none⟩) T.length T.length] (W.alloc (.cells (T.map Value.string).toArray 9)) fun e w'=>e=.returned (faV (fI R))/\St w0 B w' x (aI l R) fs:=by
 have h1:=h.later ((Below.refl _ W).alloc ler (.cells (T.map Value.string).toArray 9))
 refine(x_install h1.xat h1.bB _ T (strs_new2 W T).txts (by omega) (fun t ht=>Nat.le_trans (hs t ht) (by decide))).mono fun e w' hp=>?_
 rw[hR] at hp
 exact h1.turned R hp
theorem st_rem{w0 W:World}{B x:Nat}{l:List M.Pk}{fs:List (Nat × M.Fa)}(h:St w0 B W x l fs)(T:List ByteArray)(hT:T.length<=100)(hs:∀ t∈T,t.size<=1000)(R:Sum M.Fa (List M.Pk))(hR:M.removedS l (T.map fun t=>t.data.toList)=R):
 Calls Tryz.prog 25 #[.pointer (some ⟨x,0,none⟩),.slice (some ⟨W.heap.size,0,none⟩) T.length T.length] (W.alloc (.cells (T.map Value.string).toArray 9)) fun e w'=>e=.returned (faV (fI R))/\St w0 B w' x (aI l R) fs:=by
 have h1:=h.later ((Below.refl _ W).alloc ler (.cells (T.map Value.string).toArray 9))
 refine(x_remove h1.xat h1.bB _ T (strs_new2 W T).txts (by omega) (fun t ht=>Nat.le_trans (hs t ht) (by decide))).mono fun e w' hp=>?_
 rw[hR] at hp
 exact h1.turned R hp
theorem st_fill{w0 W:World}{B x:Nat}{l:List M.Pk}{fs:List (Nat × M.Fa)}(h:St w0 B W x l fs)(q:Nat)(hq:floatBits .quo .f64 (floatOfInt .f64 (M.sizeS l:Int)) (floatOfInt .f64 (24*(((16:Nat):Int)-8)))=some q):
 Calls Tryz.prog 23 #[.pointer (some ⟨x,0,none⟩)] W fun e w'=>e=.returned (.float .f64 q)/\St w0 B w' x l fs:=by
 obtain⟨d,s,k,b,half,hv,sv,lv,D,h1,h2,h3⟩:=h.xat
 obtain⟨z1,z2⟩:=h1.size
 have hS:SecsOf W d 16:=by
  have:=h1.disk.secsOf (by rw[h1.secs.1];omega)
  rwa [h1.secs.1] at this
 refine(xFill_any x s k b d half 16 l W h1.sess h1.store h1.known hS h1.n1 h1.n2 h1.set h1.reads (by omega)).mono ?_
 rintro e w' ⟨q',hq',rfl,hB⟩
 rw[hq] at hq'
 cases hq'
 exact⟨rfl,h.later hB⟩
theorem st_owner{w0 W:World}{B x:Nat}{l:List M.Pk}{fs:List (Nat × M.Fa)}(h:St w0 B W x l fs)(S:ByteArray)(p:M.Pk)(hl:l=[p])(hf:∃ f∈p.files,f.path=S.data.toList):
 Calls Tryz.prog 24 #[.pointer (some ⟨x,0,none⟩),.string S] W fun e w'=>e=.returned (.tuple #[.string ⟨p.name.toArray⟩,.bool true])/\St w0 B w' x l fs:=by
 refine(x_owner h.xat S).mono ?_
 rintro e w' ⟨hB,⟨q,hq,_,rfl⟩|⟨hn,_⟩⟩
 ·rw[hl,List.mem_singleton] at hq
  subst hq
  exact⟨rfl,h.later hB⟩
 ·obtain⟨f,f1,f2⟩:=hf
  exact absurd f2 (hn p (by rw[hl];exact List.mem_singleton.2 rfl) f f1)
theorem st_packs{w0 W:World}{B x:Nat}{l:List M.Pk}{fs:List (Nat × M.Fa)}(h:St w0 B W x l fs):
 Calls Tryz.prog 26 #[.pointer (some ⟨x,0,none⟩)] W fun e w'=>∃ a c,e=.returned (.tuple #[.slice a l.length c,.bool true])/\St w0 B w' x l fs:=by
 refine(x_packs h.xat).mono ?_
 rintro e w' ⟨a,c,rfl,_,hB⟩
 exact⟨a,c,rfl,h.later hB⟩
def sA:M.Pk:=⟨[97],[49],[],[],[⟨[120],[49]⟩]⟩
def sC:M.Pk:=⟨[99],[49],[[⟨[97],[],[]⟩]],[],[]⟩
theorem sA_inst:M.installedS [] ([⟨#[112,97,99,107,97,103,101,32,97,32,49,10,102,105,108,101,32,120,61,49]⟩].map fun t:ByteArray=>t.data.toList) (24*(((16:Nat):Int)-8))=.inr [sA]:=by rfl
theorem sB_inst:M.installedS [sA] ([⟨#[112,97,99,107,97,103,101,32,98,32,49,10,102,105,108,101,32,120,47,121,61,49]⟩].map fun t:ByteArray=>t.data.toList) (24*(((16:Nat):Int)-8))=.inl ⟨6,0,0,[120]⟩:=by rfl
theorem sC_inst:M.installedS [sA] ([⟨#[112,97,99,107,97,103,101,32,99,32,49,10,110,101,101,100,115,32,97]⟩].map fun t:ByteArray=>t.data.toList) (24*(((16:Nat):Int)-8))=.inr [sA,sC]:=by rfl
theorem sD_rem:M.removedS [sA,sC] ([⟨#[97]⟩].map fun t:ByteArray=>t.data.toList)=.inl ⟨4,0,0,[99]⟩:=by rfl
theorem sG_rem:M.removedS [sA,sC] ([⟨#[99]⟩,⟨#[99]⟩].map fun t:ByteArray=>t.data.toList)=.inl ⟨3,1,0,[99]⟩:=by rfl
theorem sH_rem:M.removedS [sA,sC] ([⟨#[99]⟩,⟨#[97]⟩].map fun t:ByteArray=>t.data.toList)=.inr []:=by rfl
theorem sFill:floatBits .quo .f64 (floatOfInt .f64 (M.sizeS [sA]:Int)) (floatOfInt .f64 (24*(((16:Nat):Int)-8)))=some 4592170420042115755:=by rfl
theorem story_any(w:World)(hR:Ready w):Calls Tryz.prog 14 #[] w fun e w'=>e=.returned (.bool true)/\Below w.heap.size w w':=by
 have cN:=x_new 16 w hR
 have e16:sectorsN 16=16:=by decide
 rw[e16] at cN
 clear hR e16
 go_enter Tryz.func14,Tryz.ntmps14
 go_wp2_with fail
 refine cN.mono ?_
 rintro e w1 ⟨x,rfl,hX,hB1⟩
 clear cN
 have T1:St w w.heap.size w1 x [] []:=⟨hX,hB1,(fun p hp=>by cases hp),hB1.size⟩
 clear hX hB1
 obtain⟨U1,hU1⟩:∃ U,U=w1.alloc (.cells #[.int .i64 0,.int .i64 0,.int .i64 0,.string ⟨#[]⟩] 33):=⟨_,rfl⟩
 have HU1:=hid hU1
 have S1:St w w.heap.size U1 x [] [(w1.heap.size,M.okFa)]:=by rw[hU1];exact T1.fault M.okFa
 have z1:U1.heap.size=w1.heap.size+1:=by rw[hU1];exact World.size_alloc _ _
 clear T1
 have hk1:U1.cell? ⟨w1.heap.size,0,none⟩=some (.int .i64 0):=(cell_of_row U1 _ 0 _ _ (0,0) (S1.flt _ (List.mem_singleton.2 rfl))).trans rfl
 rw[hU1] at hk1
 have c3:Calls Tryz.prog 22 #[.pointer (some ⟨x,0,none⟩),.slice (some ⟨U1.heap.size,0,none⟩) 1 1] (U1.alloc (.cells #[.string ⟨#[112,97,99,107,97,103,101,32,97,32,49,10,102,105,108,101,32,120,61,49]⟩] 9)) fun e w'=>e=.returned (.agg #[.int .i64 0,.int .i64 0,.int .i64 0,.string ⟨#[]⟩])/\St w w.heap.size w' x [sA] [(w1.heap.size,M.okFa)]:=st_inst S1 [⟨#[112,97,99,107,97,103,101,32,97,32,49,10,102,105,108,101,32,120,61,49]⟩] (by decide) (by decide) _ sA_inst
 rw[z1] at c3
 clear S1 hU1 z1
 go_wp2_with fail
 rw[<-HU1.out]
 clear hk1
 refine c3.mono ?_
 rintro e w3 ⟨rfl,T3⟩
 clear c3 HU1
 obtain⟨U3,hU3⟩:∃ U,U=w3.alloc (.cells #[.int .i64 0,.int .i64 0,.int .i64 0,.string ⟨#[]⟩] 33):=⟨_,rfl⟩
 have HU3:=hid hU3
 have S3:St w w.heap.size U3 x [sA] [(w3.heap.size,M.okFa),(w1.heap.size,M.okFa)]:=by rw[hU3];exact T3.fault M.okFa
 have z3:U3.heap.size=w3.heap.size+1:=by rw[hU3];exact World.size_alloc _ _
 clear T3
 have c4:=st_fill S3 _ sFill
 clear S3 hU3 z3
 go_wp2_with fail
 rw[<-HU3.out]
 refine c4.mono ?_
 rintro e w4 ⟨rfl,T4⟩
 clear c4 HU3
 have c5:Calls Tryz.prog 24 #[.pointer (some ⟨x,0,none⟩),.string ⟨#[120]⟩] w4 fun e w'=>e=.returned (.tuple #[.string ⟨#[97]⟩,.bool true])/\St w w.heap.size w' x [sA] [(w3.heap.size,M.okFa),(w1.heap.size,M.okFa)]:=st_owner T4 ⟨#[120]⟩ sA rfl ⟨⟨[120],[49]⟩,List.mem_singleton.2 rfl,rfl⟩
 clear T4
 go_wp2_with fail
 refine c5.mono ?_
 rintro e w5 ⟨rfl,T5⟩
 clear c5
 have c6:Calls Tryz.prog 22 #[.pointer (some ⟨x,0,none⟩),.slice (some ⟨w5.heap.size,0,none⟩) 1 1] (w5.alloc (.cells #[.string ⟨#[112,97,99,107,97,103,101,32,98,32,49,10,102,105,108,101,32,120,47,121,61,49]⟩] 9)) fun e w'=>e=.returned (.agg #[.int .i64 6,.int .i64 0,.int .i64 0,.string ⟨#[120]⟩])/\St w w.heap.size w' x [sA] [(w3.heap.size,M.okFa),(w1.heap.size,M.okFa)]:=st_inst T5 [⟨#[112,97,99,107,97,103,101,32,98,32,49,10,102,105,108,101,32,120,47,121,61,49]⟩] (by decide) (by decide) _ sB_inst
 clear T5
 go_wp2_with fail
 refine c6.mono ?_
 rintro e w6 ⟨rfl,T6⟩
 clear c6
 obtain⟨U6,hU6⟩:∃ U,U=w6.alloc (.cells #[.int .i64 6,.int .i64 0,.int .i64 0,.string ⟨#[120]⟩] 33):=⟨_,rfl⟩
 have HU6:=hid hU6
 have S6:St w w.heap.size U6 x [sA] [(w6.heap.size,⟨6,0,0,[120]⟩),(w3.heap.size,M.okFa),(w1.heap.size,M.okFa)]:=by rw[hU6];exact T6.fault ⟨6,0,0,[120]⟩
 have z6:U6.heap.size=w6.heap.size+1:=by rw[hU6];exact World.size_alloc _ _
 clear T6
 have c7:Calls Tryz.prog 22 #[.pointer (some ⟨x,0,none⟩),.slice (some ⟨U6.heap.size,0,none⟩) 1 1] (U6.alloc (.cells #[.string ⟨#[112,97,99,107,97,103,101,32,99,32,49,10,110,101,101,100,115,32,97]⟩] 9)) fun e w'=>e=.returned (.agg #[.int .i64 0,.int .i64 0,.int .i64 0,.string ⟨#[]⟩])/\St w w.heap.size w' x [sA,sC] [(w6.heap.size,⟨6,0,0,[120]⟩),(w3.heap.size,M.okFa),(w1.heap.size,M.okFa)]:=st_inst S6 [⟨#[112,97,99,107,97,103,101,32,99,32,49,10,110,101,101,100,115,32,97]⟩] (by decide) (by decide) _ sC_inst
 rw[z6] at c7
 clear S6 hU6 z6
 go_wp2_with fail
 rw[<-HU6.out]
 refine c7.mono ?_
 rintro e w7 ⟨rfl,T7⟩
 clear c7 HU6
 obtain⟨U7,hU7⟩:∃ U,U=w7.alloc (.cells #[.int .i64 0,.int .i64 0,.int .i64 0,.string ⟨#[]⟩] 33):=⟨_,rfl⟩
 have HU7:=hid hU7
 have S7:St w w.heap.size U7 x [sA,sC] [(w7.heap.size,M.okFa),(w6.heap.size,⟨6,0,0,[120]⟩),(w3.heap.size,M.okFa),(w1.heap.size,M.okFa)]:=by rw[hU7];exact T7.fault M.okFa
 have z7:U7.heap.size=w7.heap.size+1:=by rw[hU7];exact World.size_alloc _ _
 clear T7
 have c8:Calls Tryz.prog 25 #[.pointer (some ⟨x,0,none⟩),.slice (some ⟨U7.heap.size,0,none⟩) 1 1] (U7.alloc (.cells #[.string ⟨#[97]⟩] 9)) fun e w'=>e=.returned (.agg #[.int .i64 4,.int .i64 0,.int .i64 0,.string ⟨#[99]⟩])/\St w w.heap.size w' x [sA,sC] [(w7.heap.size,M.okFa),(w6.heap.size,⟨6,0,0,[120]⟩),(w3.heap.size,M.okFa),(w1.heap.size,M.okFa)]:=st_rem S7 [⟨#[97]⟩] (by decide) (by decide) _ sD_rem
 rw[z7] at c8
 clear S7 hU7 z7
 go_wp2_with fail
 rw[<-HU7.out]
 refine c8.mono ?_
 rintro e w8 ⟨rfl,T8⟩
 clear c8 HU7
 obtain⟨U8,hU8⟩:∃ U,U=w8.alloc (.cells #[.int .i64 4,.int .i64 0,.int .i64 0,.string ⟨#[99]⟩] 33):=⟨_,rfl⟩
 have HU8:=hid hU8
 have S8:St w w.heap.size U8 x [sA,sC] [(w8.heap.size,⟨4,0,0,[99]⟩),(w7.heap.size,M.okFa),(w6.heap.size,⟨6,0,0,[120]⟩),(w3.heap.size,M.okFa),(w1.heap.size,M.okFa)]:=by rw[hU8];exact T8.fault ⟨4,0,0,[99]⟩
 have z8:U8.heap.size=w8.heap.size+1:=by rw[hU8];exact World.size_alloc _ _
 clear T8
 have c9:Calls Tryz.prog 25 #[.pointer (some ⟨x,0,none⟩),.slice (some ⟨U8.heap.size,0,none⟩) 2 2] (U8.alloc (.cells #[.string ⟨#[99]⟩,.string ⟨#[99]⟩] 9)) fun e w'=>e=.returned (.agg #[.int .i64 3,.int .i64 1,.int .i64 0,.string ⟨#[99]⟩])/\St w w.heap.size w' x [sA,sC] [(w8.heap.size,⟨4,0,0,[99]⟩),(w7.heap.size,M.okFa),(w6.heap.size,⟨6,0,0,[120]⟩),(w3.heap.size,M.okFa),(w1.heap.size,M.okFa)]:=st_rem S8 [⟨#[99]⟩,⟨#[99]⟩] (by decide) (by decide) _ sG_rem
 rw[z8] at c9
 clear S8 hU8 z8
 go_wp2_with fail
 rw[<-HU8.out]
 refine c9.mono ?_
 rintro e w9 ⟨rfl,T9⟩
 clear c9 HU8
 obtain⟨U9,hU9⟩:∃ U,U=w9.alloc (.cells #[.int .i64 3,.int .i64 1,.int .i64 0,.string ⟨#[99]⟩] 33):=⟨_,rfl⟩
 have HU9:=hid hU9
 have S9:St w w.heap.size U9 x [sA,sC] [(w9.heap.size,⟨3,1,0,[99]⟩),(w8.heap.size,⟨4,0,0,[99]⟩),(w7.heap.size,M.okFa),(w6.heap.size,⟨6,0,0,[120]⟩),(w3.heap.size,M.okFa),(w1.heap.size,M.okFa)]:=by rw[hU9];exact T9.fault ⟨3,1,0,[99]⟩
 have z9:U9.heap.size=w9.heap.size+1:=by rw[hU9];exact World.size_alloc _ _
 clear T9
 have c10:Calls Tryz.prog 25 #[.pointer (some ⟨x,0,none⟩),.slice (some ⟨U9.heap.size,0,none⟩) 2 2] (U9.alloc (.cells #[.string ⟨#[99]⟩,.string ⟨#[97]⟩] 9)) fun e w'=>e=.returned (.agg #[.int .i64 0,.int .i64 0,.int .i64 0,.string ⟨#[]⟩])/\St w w.heap.size w' x [] [(w9.heap.size,⟨3,1,0,[99]⟩),(w8.heap.size,⟨4,0,0,[99]⟩),(w7.heap.size,M.okFa),(w6.heap.size,⟨6,0,0,[120]⟩),(w3.heap.size,M.okFa),(w1.heap.size,M.okFa)]:=st_rem S9 [⟨#[99]⟩,⟨#[97]⟩] (by decide) (by decide) _ sH_rem
 rw[z9] at c10
 clear S9 hU9 z9
 go_wp2_with fail
 rw[<-HU9.out]
 refine c10.mono ?_
 rintro e w10 ⟨rfl,T10⟩
 clear c10 HU9
 obtain⟨U10,hU10⟩:∃ U,U=w10.alloc (.cells #[.int .i64 0,.int .i64 0,.int .i64 0,.string ⟨#[]⟩] 33):=⟨_,rfl⟩
 have HU10:=hid hU10
 have S10:St w w.heap.size U10 x [] [(w10.heap.size,M.okFa),(w9.heap.size,⟨3,1,0,[99]⟩),(w8.heap.size,⟨4,0,0,[99]⟩),(w7.heap.size,M.okFa),(w6.heap.size,⟨6,0,0,[120]⟩),(w3.heap.size,M.okFa),(w1.heap.size,M.okFa)]:=by rw[hU10];exact T10.fault M.okFa
 have z10:U10.heap.size=w10.heap.size+1:=by rw[hU10];exact World.size_alloc _ _
 clear T10
 have c11:=st_packs S10
 clear S10 hU10 z10
 go_wp2_with fail
 rw[<-HU10.out]
 refine c11.mono ?_
 rintro e w11 ⟨la,lc,rfl,T11⟩
 clear c11 HU10
 have kw10:=T11.flt (w10.heap.size,M.okFa) (by simp)
 have kw100:w11.cell? ⟨w10.heap.size,0,none⟩=some (.int .i64 0):=(cell_of_row w11 _ 0 _ _ (0,0) kw10).trans rfl
 have kw9:=T11.flt (w9.heap.size,⟨3,1,0,[99]⟩) (by simp)
 have kw90:w11.cell? ⟨w9.heap.size,0,none⟩=some (.int .i64 3):=(cell_of_row w11 _ 0 _ _ (0,0) kw9).trans rfl
 have kw91:w11.cell? ⟨w9.heap.size,1,none⟩=some (.int .i64 1):=(cell_of_row w11 _ 1 _ _ (0,0) kw9).trans rfl
 have kw92:w11.cell? ⟨w9.heap.size,2,none⟩=some (.int .i64 0):=(cell_of_row w11 _ 2 _ _ (0,0) kw9).trans rfl
 have kw93:w11.cell? ⟨w9.heap.size,3,none⟩=some (.string ⟨#[99]⟩):=(cell_of_row w11 _ 3 _ _ (0,0) kw9).trans rfl
 have kw8:=T11.flt (w8.heap.size,⟨4,0,0,[99]⟩) (by simp)
 have kw80:w11.cell? ⟨w8.heap.size,0,none⟩=some (.int .i64 4):=(cell_of_row w11 _ 0 _ _ (0,0) kw8).trans rfl
 have kw81:w11.cell? ⟨w8.heap.size,1,none⟩=some (.int .i64 0):=(cell_of_row w11 _ 1 _ _ (0,0) kw8).trans rfl
 have kw82:w11.cell? ⟨w8.heap.size,2,none⟩=some (.int .i64 0):=(cell_of_row w11 _ 2 _ _ (0,0) kw8).trans rfl
 have kw83:w11.cell? ⟨w8.heap.size,3,none⟩=some (.string ⟨#[99]⟩):=(cell_of_row w11 _ 3 _ _ (0,0) kw8).trans rfl
 have kw7:=T11.flt (w7.heap.size,M.okFa) (by simp)
 have kw70:w11.cell? ⟨w7.heap.size,0,none⟩=some (.int .i64 0):=(cell_of_row w11 _ 0 _ _ (0,0) kw7).trans rfl
 have kw6:=T11.flt (w6.heap.size,⟨6,0,0,[120]⟩) (by simp)
 have kw60:w11.cell? ⟨w6.heap.size,0,none⟩=some (.int .i64 6):=(cell_of_row w11 _ 0 _ _ (0,0) kw6).trans rfl
 have kw61:w11.cell? ⟨w6.heap.size,1,none⟩=some (.int .i64 0):=(cell_of_row w11 _ 1 _ _ (0,0) kw6).trans rfl
 have kw62:w11.cell? ⟨w6.heap.size,2,none⟩=some (.int .i64 0):=(cell_of_row w11 _ 2 _ _ (0,0) kw6).trans rfl
 have kw63:w11.cell? ⟨w6.heap.size,3,none⟩=some (.string ⟨#[120]⟩):=(cell_of_row w11 _ 3 _ _ (0,0) kw6).trans rfl
 have kw3:=T11.flt (w3.heap.size,M.okFa) (by simp)
 have kw30:w11.cell? ⟨w3.heap.size,0,none⟩=some (.int .i64 0):=(cell_of_row w11 _ 0 _ _ (0,0) kw3).trans rfl
 have HB:Hid (Below w.heap.size w w11):=T11.low
 clear T11 kw10 kw9 kw8 kw7 kw6 kw3
 go_wp2
 go_ret
 exact⟨rfl,HB.out⟩
end Go.Proofs.YtgnfknjopafngabGreatDoor
