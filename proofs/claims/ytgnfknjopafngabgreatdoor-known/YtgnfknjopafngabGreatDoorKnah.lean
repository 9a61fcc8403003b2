import Derived.Test.YtgnfknjopafngabGreatDoorKnag
set_option maxRecDepth 100000
set_option maxHeartbeats 4000000
namespace Go.Proofs.YtgnfknjopafngabGreatDoor
open Go.RowKit Go.Maps
structure SessIs (W:World) (x d s k b half n:Nat) (hv sv lv:Value) (D:M.Dk) (l:List M.Pk):Prop where
 ready:Ready W
 sess:SessAt W x d (.pointer (some ⟨s,0,none⟩))
 store:StoreAt W s k b
 known:KnownAt W k d half
 disk:DiskIs W d hv sv lv D
 set:SetIn W b l
 n1:16<=n
 n2:n<=256
 ho:half<=1
 rest:M.Rest D n half (M.packed l)
 left:D.left<=9223372036854775807
 tog:M.Tog l
 room:(M.sizeS l:Int)<=24*((n:Int)-8)
 high:∀ j,(j=x\/j=s\/j=k\/dFoot d hv sv lv j)->1<j
def xFoot(x d s k:Nat)(hv sv lv:Value)(j:Nat):Prop:=j=x\/j=s\/j=k\/dFoot d hv sv lv j
theorem ReadP.of{p:M.Pk}(h:M.Back p):ReadP p:=readP h
theorem SessIs.reads{W:World}{x d s k b half n:Nat}{hv sv lv:Value}{D:M.Dk}{l:List M.Pk}(h:SessIs W x d s k b half n hv sv lv D l):∀ p∈l,ReadP p:=fun p hp=>ReadP.of (h.tog.back p hp)
theorem SessIs.size{W:World}{x d s k b half n:Nat}{hv sv lv:Value}{D:M.Dk}{l:List M.Pk}(h:SessIs W x d s k b half n hv sv lv D l):M.sizeS l<=5952/\l.length<=600:=by
 have h1:=h.room
 have h2:=h.n2
 have h3:=M.size_long h.tog.back
 omega
theorem SessIs.below{W W':World}{x d s k b half n:Nat}{hv sv lv:Value}{D:M.Dk}{l:List M.Pk}(h:SessIs W x d s k b half n hv sv lv D l)(hb:Below W.heap.size W W'):SessIs W' x d s k b half n hv sv lv D l:=
 ⟨h.ready.below hb,(hb.block x (ges.1 h.sess).1).trans h.sess,(hb.block s (ges.1 h.store).1).trans h.store,KnownAt.below h.known hb,h.disk.below hb,h.set.below hb,h.n1,h.n2,h.ho,h.rest,h.left,h.tog,h.room,h.high⟩
theorem SessIs.secs{W:World}{x d s k b half n:Nat}{hv sv lv:Value}{D:M.Dk}{l:List M.Pk}(h:SessIs W x d s k b half n hv sv lv D l):D.seen.length=n/\D.held.length=n:=by
 have h1:=h.rest.lies.len
 have h2:=h.rest.same
 exact⟨h1,by rw[h2];exact h1⟩
theorem ty_ne{w:World}{a b:Nat}{c c':Array Value}{t t':TypeId}{f f':Nat × Nat}(h:w.heap[a]? = some (.cells c t f))(h':w.heap[b]? = some (.cells c' t' f'))(ht:t≠t'):a≠b:=by
 rintro rfl
 rw[h] at h'
 cases h'
 exact ht rfl
theorem DiskIs.ty{w:World}{d:Nat}{hv sv lv:Value}{D:M.Dk}(h:DiskIs w d hv sv lv D){j:Nat}(hj:dFoot d hv sv lv j):∃ c t,w.heap[j]? = some (.cells c t (0,0))/\(t=101\/t=102\/t=246):=by
 rcases hj with rfl|e|e|e
 ·exact⟨_,_,h.blk,.inl rfl⟩
 ·obtain⟨c,hc⟩:=h.held.type j e;exact⟨_,_,hc,.inr (.inl rfl)⟩
 ·obtain⟨c,hc⟩:=h.seen.type j e;exact⟨_,_,hc,.inr (.inl rfl)⟩
 ·obtain⟨c,hc⟩:=h.late.type j e;exact⟨_,_,hc,.inr (.inr rfl)⟩
theorem DiskIs.off{w:World}{d:Nat}{hv sv lv:Value}{D:M.Dk}(h:DiskIs w d hv sv lv D){j:Nat}{c:Array Value}{t:TypeId}{f:Nat × Nat}(hj:w.heap[j]? = some (.cells c t f))(h1:t≠101)(h2:t≠102)(h3:t≠246):¬ dFoot d hv sv lv j:=fun e=>by
 obtain⟨c',t',e',ht⟩:=h.ty e
 rw[hj] at e'
 cases e'
 rcases ht with rfl|rfl|rfl
 ·exact h1 rfl
 ·exact h2 rfl
 ·exact h3 rfl
theorem SessIs.noText{W:World}{x d s k b half n:Nat}{hv sv lv:Value}{D:M.Dk}{l:List M.Pk}(h:SessIs W x d s k b half n hv sv lv D l):NoText (xFoot x d s k hv sv lv) W:=by
 obtain⟨h1,h2⟩:=h.secs
 rintro j (rfl|rfl|rfl|e)
 ·exact NoText.one h.sess (fun s e=>by cases e) (fun a n p e=>by cases e) (by decide) _ rfl
 ·exact NoText.one h.store (fun s e=>by cases e) (fun a n p e=>by cases e) (by decide) _ rfl
 ·exact NoText.one h.known (fun s e=>by cases e) (fun a n p e=>by cases e) (by decide) _ rfl
 ·exact h.disk.noText (by have:=h.n1;omega) (by have:=h.n1;omega) j e
def TurnTo(w:World)(x d s k half n:Nat)(hv sv lv:Value)(D:M.Dk)(all:List M.Pk)(w':World):Prop:=
 ∃ nb lv',Ready w'/\SessAt w' x d (.pointer (some ⟨s,0,none⟩))/\StoreAt w' s k nb/\KnownAt w' k d (1-half)/\SetIn w' nb all/\DiskIs w' d hv sv lv' (D.save n (1-half) (M.packed all))/\Chg (fun j=>j=s\/j=k\/dFoot d hv sv lv j) w w'/\(∀ j,lv'.ownBlock=some j->lv.ownBlock=some j\/w.heap.size<=j)
theorem noU8_one{w:World}{j:Nat}{c:Array Value}{t:TypeId}{f:Nat × Nat}(h:w.heap[j]? = some (.cells c t f))(ht:t≠5):NoU8 (fun i=>i=j) w:=by
 rintro i rfl cur fz e
 rw[h] at e
 cases e
 exact ht rfl
theorem change_post{A:World}{x d s k b half n:Nat}{hv sv lv:Value}{D:M.Dk}{l all:List M.Pk}(h:SessIs A x d s k b half n hv sv lv D l)(ht:M.Tog all)(hr:(M.sizeS all:Int)<=24*((n:Int)-8)){nb:Nat}{wx:World}(hb:Below A.heap.size A wx)(hs:SetIn wx nb all):
 Calls Tryz.prog 85 #[.pointer (some ⟨s,0,none⟩),.map (some nb),.nilIface] wx fun e w'=>e=.returned .nilIface/\TurnTo A x d s k half n hv sv lv D all w':=by
 have hx:=h.below hb
 have hrd:∀ p∈all,ReadP p:=fun p hp=>ReadP.of (ht.back p hp)
 have hlen:all.length<=1000:=by have:=M.size_long ht.back;have:=h.n2;omega
 obtain⟨hf1,hf2⟩:=M.packed_fits ht.back ht.apart h.n1 h.n2 hr
 have hoffS:=hx.disk.off hx.store (by decide) (by decide) (by decide)
 have hoffX:=hx.disk.off hx.sess (by decide) (by decide) (by decide)
 have hsk:s≠k:=ty_ne hx.store hx.known (by decide)
 have hxs:x≠s:=ty_ne hx.sess hx.store (by decide)
 have hxk:x≠k:=ty_ne hx.sess hx.known (by decide)
 refine(change_any s k b nb d half n hv sv lv D all wx (texts_do nb all (by omega) hrd) hx.store hx.known hx.disk (h.rest.sane h.left) h.n1 h.n2 h.ho hs hlen hf1 hf2 hoffS).mono ?_
 rintro e w' ⟨rfl,W,hBW,W',hst,hgS,hkn,lv',hdk,hchg,hlv⟩
 have hcS:Chg (fun j=>j=s) W' w':=Chg.grown hgS (fun j e _=>(Option.some.inj e).symm)
 have hsW:W'.heap[s]? = some (.cells #[.pointer (some ⟨k,0,none⟩),.map (some b)] 110 (0,0)):=(hchg.block s (Nat.lt_of_lt_of_le (ges.1 hx.store).1 hBW.size) (fun e=>e.elim hsk hoffS)).trans ((hBW.block s (ges.1 hx.store).1).trans hx.store)
 have hF:Chg (fun j=>j=s\/j=k\/dFoot d hv sv lv j) wx w':=((Chg.below hBW).then hchg (fun j _ e=>.inr e)).then hcS (fun j _ e=>.inl e)
 have hnt:NoText (fun j=>j=s\/j=k\/dFoot d hv sv lv j) wx:=fun j e=>hx.noText j (.inr e)
 refine⟨rfl,nb,lv',?_,?_,hst,?_,?_,?_,?_,?_⟩
 ·exact hx.ready.chg hF (fun j e=>h.high j (.inr e))
 ·exact hx.sess.chg hF (fun e=>e.elim hxs (fun e=>e.elim hxk hoffX))
 ·exact(hcS.block k (ges.1 hkn).1 (fun e=>hsk e.symm)).trans hkn
 ·exact hs.chg hF hnt (fun p hp=>(ht.back p hp).few)
 ·exact hdk.chg hcS (noU8_one hsW (by decide)) (fun j hj e=>by subst e;exact hdk.off hsW (by decide) (by decide) (by decide) hj)
 ·exact(Chg.below hb).then hF (fun j _ e=>e)
 ·intro j hj
  rcases hlv j hj with e|e
  ·exact .inl e
  ·exact .inr (by have:=hb.size;have:=hBW.size;omega)
def TurnPost(R:Sum M.Fa (List M.Pk))(w:World)(x d s k half n:Nat)(hv sv lv:Value)(D:M.Dk)(e:Ending)(w':World):Prop:=match R with
 | .inl f=>e=.returned (faV f)/\Below w.heap.size w w'
 | .inr all=>e=.returned okV/\TurnTo w x d s k half n hv sv lv D all w'
theorem turn_post{w:World}{x d s k b half n:Nat}{hv sv lv:Value}{D:M.Dk}{l:List M.Pk}(h:SessIs w x d s k b half n hv sv lv D l)(R:Sum M.Fa (List M.Pk))(ht:∀ all,R=.inr all->M.Tog all){A:World}(hA:A=w.alloc (.cells okC 33)){e:Ending}{w':World}
 (hp:TurnedPost R (fun all e W=>e=.returned .nilIface/\TurnTo A x d s k half n hv sv lv D all W/\W.heap[w.heap.size]? = some (.cells okC 33 (0,0))) w e w'):TurnPost R w x d s k half n hv sv lv D e w':=by
 cases R with
 | inl f=>exact hp
 | inr all=>
  obtain⟨rfl,W,⟨-,⟨nb,lv',h1,h2,h3,h4,h5,h6,h7,h8⟩,hr⟩,hc⟩:=hp
  have hB:Below w.heap.size w A:=by rw[hA];exact(Below.refl _ w).alloc ler _
  have hAs:A.heap.size=w.heap.size+1:=by rw[hA];simp
  have nt:NoText (fun i=>i=w.heap.size) W:=NoText.one hr (fun s e=>by cases e) (fun a n p e=>by cases e)
  have hW:=h7.size
  have hne:∀ {j:Nat} {c:Array Value} {t:TypeId} {f:Nat × Nat},W.heap[j]? = some (.cells c t f)->t≠33->j≠w.heap.size:=fun hj hn=>ty_ne hj hr hn
  refine⟨rfl,nb,lv',?_,?_,?_,?_,?_,?_,?_,?_⟩
  ·refine h1.chg hc (fun j e=>?_)
   subst e
   have:=h.high x (.inl rfl)
   have:=(ges.1 h.sess).1
   omega
  ·exact h2.chg hc (fun e=>hne h2 (by decide) e)
  ·exact(hc.block s (ges.1 h3).1 (fun e=>hne h3 (by decide) e)).trans h3
  ·exact(hc.block k (ges.1 h4).1 (fun e=>hne h4 (by decide) e)).trans h4
  ·exact h5.chg hc nt (fun p hp=>((ht all rfl).back p hp).few)
  ·exact h6.chg hc (noU8_one hr (by decide)) (fun j hj e=>by subst e;exact h6.off hr (by decide) (by decide) (by decide) hj)
  ·exact((Chg.below hB).then h7 (fun j _ e=>e)).then hc (fun j hj e=>by omega)
  ·intro j hj
   rcases h8 j hj with e|e
   ·exact .inl e
   ·exact .inr (by omega)
theorem post_ok{w A:World}{x d s k b half n:Nat}{hv sv lv:Value}{D:M.Dk}{l all:List M.Pk}(h:SessIs A x d s k b half n hv sv lv D l)(hA:A=w.alloc (.cells okC 33)){W:World}(ht:TurnTo A x d s k half n hv sv lv D all W):W.heap[w.heap.size]? = some (.cells okC 33 (0,0)):=by
 obtain⟨nb,lv',h1,h2,h3,h4,h5,h6,h7,h8⟩:=ht
 have hr:A.heap[w.heap.size]? = some (.cells okC 33 (0,0)):=by rw[hA];exact heap_alloc_new w _
 refine(h7.block _ (ges.1 hr).1 (fun e=>?_)).trans hr
 rcases e with e|e|e
 ·exact ty_ne hr h.store (by decide) e
 ·exact ty_ne hr h.known (by decide) e
 ·exact h.disk.off hr (by decide) (by decide) (by decide) e
theorem inst_kind{there:List M.Pk}{texts:List (List UInt8)}{room:Int}{f:M.Fa}(h:M.installedS there texts room=.inl f):1<=f.kind/\f.kind<=8:=by
 unfold M.installedS at h
 split at h
 ·rename_i g hg
  cases h
  exact planned_kinds hg
 ·split at h
  ·cases h;decide
  ·cases h
theorem sess_install{w:World}{x d s k b half n:Nat}{hv sv lv:Value}{D:M.Dk}{l:List M.Pk}(h:SessIs w x d s k b half n hv sv lv D l)(xv:Value)(texts:List ByteArray)(hx:TxtsIn w xv texts)(hxn:texts.length<=10000)(hxs:∀ t∈texts,t.size<=8192):
 Calls Tryz.prog 22 #[.pointer (some ⟨x,0,none⟩),xv] w (TurnPost (M.installedS l (texts.map fun t=>t.data.toList) (24*((n:Int)-8))) w x d s k half n hv sv lv D):=by
 obtain⟨a,c,exv⟩:=hx.form
 obtain⟨z1,z2⟩:=h.size
 have hok:∀ all,M.installedS l (texts.map fun t=>t.data.toList) (24*((n:Int)-8))=.inr all->M.Tog all/\(M.sizeS all:Int)<=24*((n:Int)-8):=fun all e=>by
  obtain⟨_,_,_,_,_,q1,_,q2⟩:=M.installed_ok e h.tog.back h.tog.apart
  exact⟨q1,q2⟩
 refine(xInstall_any x d s xv a texts.length c exv (M.installedS l (texts.map fun t=>t.data.toList) (24*((n:Int)-8))) (fun all e W=>e=.returned .nilIface/\TurnTo (w.alloc (.cells okC 33)) x d s k half n hv sv lv D all W/\W.heap[w.heap.size]? = some (.cells okC 33 (0,0))) w h.ready h.sess (fun f e=>inst_kind e) ?_ (fun all e W hp=>⟨hp.1,hp.2.2⟩)).mono (fun e w' hp=>turn_post h _ (fun all e=>(hok all e).1) rfl hp)
 rintro A rfl
 have hB:Below w.heap.size w (w.alloc (.cells okC 33)):=(Below.refl _ w).alloc ler _
 have hA:=h.below hB
 refine sInstall_any s k b d half n l xv texts _ _ hA.ready hA.store hA.known ?_ h.n1 h.n2 hA.set (hx.below hB) hxn hxs (by omega) h.reads ?_
 ·have:=hA.disk.secsOf (by rw[hA.secs.1];have:=h.n1;omega)
  rwa [hA.secs.1] at this
 ·intro all nb wx he hb hs
  obtain⟨k1,k2⟩:=hok all he
  exact(change_post hA k1 k2 hb hs).mono (fun e w' hp=>⟨⟨_,hp.1⟩,hp.1,hp.2,post_ok hA rfl hp.2⟩)
theorem drop_kind:∀ (ns:List (List UInt8)) (i:Nat) (l:List M.Pk) (f:M.Fa),M.dropAllS ns i l=.inl f->f.kind=3
 | [],i,l,f,h=>by cases h
 | x :: ns,i,l,f,h=>by
  unfold M.dropAllS at h
  split at h
  ·cases h;rfl
  ·exact drop_kind ns _ _ f h
theorem rem_kind{there:List M.Pk}{names:List (List UInt8)}{f:M.Fa}(h:M.removedS there names=.inl f):1<=f.kind/\f.kind<=8:=by
 unfold M.removedS at h
 split at h
 ·rename_i g hg
  cases h
  have:=drop_kind _ _ _ _ hg
  omega
 ·split at h
  ·cases h;exact⟨by show 1<=4;omega,by show 4<=8;omega⟩
  ·cases h
theorem sess_remove{w:World}{x d s k b half n:Nat}{hv sv lv:Value}{D:M.Dk}{l:List M.Pk}(h:SessIs w x d s k b half n hv sv lv D l)(xv:Value)(names:List ByteArray)(hx:TxtsIn w xv names)(hxn:names.length<=10000)(hxs:∀ t∈names,t.size<=8192):
 Calls Tryz.prog 25 #[.pointer (some ⟨x,0,none⟩),xv] w (TurnPost (M.removedS l (names.map fun t=>t.data.toList)) w x d s k half n hv sv lv D):=by
 obtain⟨a,c,exv⟩:=hx.form
 obtain⟨z1,z2⟩:=h.size
 have hok:∀ all,M.removedS l (names.map fun t=>t.data.toList)=.inr all->M.Tog all/\(M.sizeS all:Int)<=24*((n:Int)-8):=fun all e=>by
  obtain⟨q1,_,q2⟩:=M.removed_ok e h.tog
  exact⟨q1,by have:=h.room;omega⟩
 refine(xRemove_any x d s xv a names.length c exv (M.removedS l (names.map fun t=>t.data.toList)) (fun all e W=>e=.returned .nilIface/\TurnTo (w.alloc (.cells okC 33)) x d s k half n hv sv lv D all W/\W.heap[w.heap.size]? = some (.cells okC 33 (0,0))) w h.ready h.sess (fun f e=>rem_kind e) ?_ (fun all e W hp=>⟨hp.1,hp.2.2⟩)).mono (fun e w' hp=>turn_post h _ (fun all e=>(hok all e).1) rfl hp)
 rintro A rfl
 have hB:Below w.heap.size w (w.alloc (.cells okC 33)):=(Below.refl _ w).alloc ler _
 have hA:=h.below hB
 refine sRemove_any s k b l xv names _ _ hA.store hA.set (hx.below hB) hxn hxs (by omega) h.reads ?_
 intro all nb wx he hb hs
 obtain⟨k1,k2⟩:=hok all he
 exact(change_post hA k1 k2 hb hs).mono (fun e w' hp=>⟨⟨_,hp.1⟩,hp.1,hp.2,post_ok hA rfl hp.2⟩)
theorem Ready.lt{w:World}(h:Ready w):1<w.heap.size:=by
 obtain⟨_,m,h2⟩:=h
 exact World.block_lt_of_cell? _ _ h2
theorem rest_empty{n:Nat}(h:16<=n):M.Rest (emptyD n) n 0 (M.packed []):=⟨rfl,rfl,rfl,M.lies_empty n h⟩
theorem sess_new(n:Int)(w:World)(hR:Ready w):Calls Tryz.prog 11 #[.int .i64 n] w fun e w'=>∃ x d s k b hv sv,e=.returned (.tuple #[.pointer (some ⟨x,0,none⟩),okV])/\SessIs w' x d s k b 0 (sectorsN n) hv sv (.slice none 0 0) (emptyD (sectorsN n)) []/\(∀ j,xFoot x d s k hv sv (.slice none 0 0) j->w.heap.size<=j)/\Below w.heap.size w w':=by
 obtain⟨m1,m2⟩:=sectorsN_le n
 have hlt:=hR.lt
 refine(new_full n w hR).mono ?_
 rintro e w' ⟨x,d,s,k,b,hv,sv,rfl,h1,h2,h3,h4,h5,g1,g2,g3,g4,hB⟩
 have hft:∀ j,xFoot x d s k hv sv (.slice none 0 0) j->w.heap.size<=j:=by
  rintro j (rfl|rfl|rfl|rfl|e|e|e)
  ·exact g1
  ·exact g3
  ·exact g4
  ·exact g2
  ·have:=(h5.held.lt j e).1;omega
  ·have:=(h5.seen.lt j e).1;omega
  ·cases e
 exact⟨x,d,s,k,b,hv,sv,rfl,⟨hR.below hB,h1,h2,h3,h5,h4,m1,m2,Nat.zero_le _,rest_empty m1,by show (-1:Int)<=_;omega,M.tog_nil,by show ((0:Nat):Int)<=_;omega,fun j hj=>Nat.lt_of_lt_of_le hlt (hft j hj)⟩,hft,hB⟩
namespace M
def Stays(D:Dk):Prop:=D.dead=false/\D.left = -1
theorem Stays.left'{D:Dk}(h:Stays D):(if 0<D.left then D.left-1 else D.left) = -1:=by rw[h.2];decide
theorem Stays.write{D:Dk}(h:Stays D)(n:Nat)(x:List UInt8):Stays (D.write n x):=by
 unfold Dk.write
 rw[if_neg (by rw[h.1,h.2];decide)]
 exact⟨rfl,h.left'⟩
theorem Stays.sync{D:Dk}(h:Stays D):Stays D.sync:=by
 unfold Dk.sync
 rw[if_neg (by rw[h.1,h.2];decide)]
 exact⟨rfl,h.left'⟩
theorem Stays.body{D:Dk}(h:Stays D)(n half:Nat)(t:List UInt8):∀ k,Stays (D.body n half t k)
 | 0=>h
 | k+1=>(Stays.body h n half t k).write _ _
theorem Stays.save{D:Dk}(h:Stays D)(n half:Nat)(t:List UInt8):Stays (D.save n half t):=(((h.body n half t _).sync).write _ _).sync
end M
def NoStr(F:Nat->Prop)(w:World):Prop:=∀ k,F k->∀ s,w.cell? ⟨k,0,none⟩≠some (.string s)
theorem strs_chg{F:Nat->Prop}{w w':World}{v:Value}{l:List ByteArray}(h:StrsIn w v l)(hc:Chg F w w')(hF:NoStr F w):StrsIn w' v l:=by
 refine(RowIn.chg h hc (fun e=>by simpa using e) (fun g hg _ hne f=>?_) ler).wide ler hc.size
 cases l with
 | nil=>exact hne rfl
 | cons c l=>exact hF g f _ (hg (.string c) rfl)
theorem SessIs.noStr{W:World}{x d s k b half n:Nat}{hv sv lv:Value}{D:M.Dk}{l:List M.Pk}(h:SessIs W x d s k b half n hv sv lv D l):NoStr (xFoot x d s k hv sv lv) W:=fun j hj=>by
 rcases(h.noText j hj).2.1 with ⟨c,f,e⟩|e
 ·exfalso
  rcases hj with rfl|rfl|rfl|hj
  ·exact ty_ne e h.sess (by decide) rfl
  ·exact ty_ne e h.store (by decide) rfl
  ·exact ty_ne e h.known (by decide) rfl
  ·exact h.disk.off e (by decide) (by decide) (by decide) hj
 ·exact e
def XAt(W:World)(B x n:Nat)(l:List M.Pk):Prop:=∃ d s k b half hv sv lv D,SessIs W x d s k b half n hv sv lv D l/\M.Stays D/\∀ j,xFoot x d s k hv sv lv j->B<=j
structure Over (B:Nat) (w w':World):Prop where
 low:Below B w w'
 strs:∀ v l,StrsIn w v l->StrsIn w' v l
 flt:∀ (j:Nat) (c:Array Value) (f:Nat × Nat),w.heap[j]? = some (.cells c 33 f)->w'.heap[j]? = some (.cells c 33 f)
theorem x_new(n:Int)(w:World)(hR:Ready w):Calls Tryz.prog 11 #[.int .i64 n] w fun e w'=>∃ x,e=.returned (.tuple #[.pointer (some ⟨x,0,none⟩),okV])/\XAt w' w.heap.size x (sectorsN n) []/\Below w.heap.size w w':=by
 refine(sess_new n w hR).mono ?_
 rintro e w' ⟨x,d,s,k,b,hv,sv,rfl,h1,h2,h3⟩
 exact⟨x,rfl,⟨d,s,k,b,0,hv,sv,_,_,h1,⟨rfl,rfl⟩,h2⟩,h3⟩
theorem SessIs.turned{w w':World}{B x d s k b half n:Nat}{hv sv lv:Value}{D:M.Dk}{l all:List M.Pk}(h:SessIs w x d s k b half n hv sv lv D l)(hs:M.Stays D)(hf:∀ j,xFoot x d s k hv sv lv j->B<=j)(hB:B<=w.heap.size)(ht:M.Tog all)(hr:(M.sizeS all:Int)<=24*((n:Int)-8))(hT:TurnTo w x d s k half n hv sv lv D all w'):
 XAt w' B x n all/\Over B w w':=by
 obtain⟨nb,lv',h1,h2,h3,h4,h5,h6,h7,h8⟩:=hT
 obtain⟨hf1,hf2⟩:=M.packed_fits ht.back ht.apart h.n1 h.n2 hr
 have hst:=hs.save n (1-half) (M.packed all)
 have hrest:M.Rest (D.save n (1-half) (M.packed all)) n (1-half) (M.packed all):=by
  rcases M.save_ok h.rest (by have:=h.n1;omega) hf1 hf2 with e|e
  ·exact e
  ·have:=e.dead
   rw[hst.1] at this
   cases this
 have hft:∀ j,xFoot x d s k hv sv lv' j->B<=j:=by
  rintro j (e|e|e|e|e|e|e)
  ·exact hf j (.inl e)
  ·exact hf j (.inr (.inl e))
  ·exact hf j (.inr (.inr (.inl e)))
  ·exact hf j (.inr (.inr (.inr (.inl e))))
  ·exact hf j (.inr (.inr (.inr (.inr (.inl e)))))
  ·exact hf j (.inr (.inr (.inr (.inr (.inr (.inl e))))))
  ·rcases h8 j e with e|e
   ·exact hf j (.inr (.inr (.inr (.inr (.inr (.inr e))))))
   ·omega
 have hhi:∀ j,xFoot x d s k hv sv lv' j->1<j:=by
  have hlt:=h.ready.lt
  rintro j (e|e|e|e|e|e|e)
  ·exact h.high j (.inl e)
  ·exact h.high j (.inr (.inl e))
  ·exact h.high j (.inr (.inr (.inl e)))
  ·exact h.high j (.inr (.inr (.inr (.inl e))))
  ·exact h.high j (.inr (.inr (.inr (.inr (.inl e)))))
  ·exact h.high j (.inr (.inr (.inr (.inr (.inr (.inl e))))))
  ·rcases h8 j e with e|e
   ·exact h.high j (.inr (.inr (.inr (.inr (.inr (.inr e))))))
   ·omega
 refine⟨⟨d,s,k,nb,1-half,hv,sv,lv',_,⟨h1,h2,h3,h4,h6,h5,h.n1,h.n2,by omega,hrest,by rw[hst.2];omega,ht,hr,hhi⟩,hst,hft⟩,?_,?_,?_⟩
 ·exact⟨h7.os,h7.tape,h7.output,h7.size,fun j hj=>h7.block j (by omega) (fun e=>by have:=hf j (.inr e);omega)⟩
 ·exact fun v l e=>strs_chg e h7 (fun j hj=>h.noStr j (.inr hj))
 ·refine fun j c f e=>(h7.block j (ges.1 e).1 (fun hj=>?_)).trans e
  rcases hj with rfl|rfl|hj
  ·exact ty_ne e h.store (by decide) rfl
  ·exact ty_ne e h.known (by decide) rfl
  ·exact h.disk.off e (by decide) (by decide) (by decide) hj
def XPost(R:Sum M.Fa (List M.Pk))(B x n:Nat)(w:World)(e:Ending)(w':World):Prop:=match R with
 | .inl f=>e=.returned (faV f)/\1<=f.kind/\f.kind<=8/\Below w.heap.size w w'
 | .inr all=>e=.returned okV/\XAt w' B x n all/\Over B w w'
theorem x_install{w:World}{B x n:Nat}{l:List M.Pk}(h:XAt w B x n l)(hB:B<=w.heap.size)(xv:Value)(texts:List ByteArray)(hx:TxtsIn w xv texts)(hxn:texts.length<=10000)(hxs:∀ t∈texts,t.size<=8192):
 Calls Tryz.prog 22 #[.pointer (some ⟨x,0,none⟩),xv] w (XPost (M.installedS l (texts.map fun t=>t.data.toList) (24*((n:Int)-8))) B x n w):=by
 obtain⟨d,s,k,b,half,hv,sv,lv,D,h1,h2,h3⟩:=h
 refine(sess_install h1 xv texts hx hxn hxs).mono fun e w' hp=>?_
 cases hR:M.installedS l (texts.map fun t=>t.data.toList) (24*((n:Int)-8)) with
 | inl f=>
  rw[hR] at hp
  obtain⟨k1,k2⟩:=inst_kind hR
  exact⟨hp.1,k1,k2,hp.2⟩
 | inr all=>
  rw[hR] at hp
  obtain⟨_,_,_,_,_,q1,_,q2⟩:=M.installed_ok hR h1.tog.back h1.tog.apart
  exact⟨hp.1,h1.turned h2 h3 hB q1 q2 hp.2⟩
theorem x_remove{w:World}{B x n:Nat}{l:List M.Pk}(h:XAt w B x n l)(hB:B<=w.heap.size)(xv:Value)(names:List ByteArray)(hx:TxtsIn w xv names)(hxn:names.length<=10000)(hxs:∀ t∈names,t.size<=8192):
 Calls Tryz.prog 25 #[.pointer (some ⟨x,0,none⟩),xv] w (XPost (M.removedS l (names.map fun t=>t.data.toList)) B x n w):=by
 obtain⟨d,s,k,b,half,hv,sv,lv,D,h1,h2,h3⟩:=h
 refine(sess_remove h1 xv names hx hxn hxs).mono fun e w' hp=>?_
 cases hR:M.removedS l (names.map fun t=>t.data.toList) with
 | inl f=>
  rw[hR] at hp
  obtain⟨k1,k2⟩:=rem_kind hR
  exact⟨hp.1,k1,k2,hp.2⟩
 | inr all=>
  rw[hR] at hp
  obtain⟨q1,_,q2⟩:=M.removed_ok hR h1.tog
  exact⟨hp.1,h1.turned h2 h3 hB q1 (by have:=h1.room;omega) hp.2⟩
def txsB(l:List M.Pk):List ByteArray:=(M.textsS l).map fun t=>⟨t.toArray⟩
theorem x_packs{w:World}{B x n:Nat}{l:List M.Pk}(h:XAt w B x n l):Calls Tryz.prog 26 #[.pointer (some ⟨x,0,none⟩)] w fun e w'=>∃ a c,e=.returned (.tuple #[.slice a l.length c,.bool true])/\StrsIn w' (.slice a l.length c) (txsB l)/\Below w.heap.size w w':=by
 obtain⟨d,s,k,b,half,hv,sv,lv,D,h1,h2,h3⟩:=h
 obtain⟨z1,z2⟩:=h1.size
 refine(xPackages_any x d s k b l w h1.sess h1.store h1.set (by omega) h1.reads (by omega)).mono ?_
 rintro e w' ⟨a,c,rfl,ho,hB⟩
 rw[<-M.texts_len] at ho
 exact⟨a,c,rfl,by rw[<-M.texts_len];exact strs_own ho,hB⟩
def lenP:Sum M.Fa (List M.Pk × List (List UInt8))->Nat
 | .inl _=>0
 | .inr q=>q.2.length
def faultP:Sum M.Fa (List M.Pk × List (List UInt8))->M.Fa
 | .inl f=>f
 | .inr _=>M.okFa
theorem x_plan{w:World}{B x n:Nat}{l:List M.Pk}(h:XAt w B x n l)(xv:Value)(texts:List ByteArray)(hx:TxtsIn w xv texts)(hxn:texts.length<=10000)(hxs:∀ t∈texts,t.size<=8192):
 Calls Tryz.prog 12 #[.pointer (some ⟨x,0,none⟩),xv] w fun e w'=>∃ a c,e=.returned (.tuple #[.slice a (lenP (M.plannedS l (texts.map fun t=>t.data.toList))) c,faV (faultP (M.plannedS l (texts.map fun t=>t.data.toList)))])/\(∃ N:List ByteArray,StrsIn w' (.slice a (lenP (M.plannedS l (texts.map fun t=>t.data.toList))) c) N/\∀ all names,M.plannedS l (texts.map fun t=>t.data.toList)=.inr (all,names)->N=names.map fun n:List UInt8=>(⟨n.toArray⟩:ByteArray))/\Below w.heap.size w w':=by
 obtain⟨d,s,k,b,half,hv,sv,lv,D,h1,h2,h3⟩:=h
 obtain⟨z1,z2⟩:=h1.size
 refine(xPlan_any x d s k b l xv texts w h1.ready h1.sess h1.store h1.set hx hxn hxs (by omega) h1.reads).mono ?_
 rintro e w' ⟨hB,hm⟩
 cases hR:M.plannedS l (texts.map fun t=>t.data.toList) with
 | inl f=>
  rw[hR] at hm
  exact⟨none,0,hm,⟨[],StrsIn.none w',fun _ _ e=>by cases e⟩,hB⟩
 | inr q=>
  obtain⟨all,names⟩:=q
  rw[hR] at hm
  obtain⟨v,rfl,hv2⟩:=hm
  obtain⟨a,c,rfl⟩:=hv2.form
  rw[List.length_map] at hv2 ⊢
  exact⟨a,c,rfl,⟨names.map fun n:List UInt8=>(⟨n.toArray⟩:ByteArray),hv2,fun all' names' e=>by cases e;rfl⟩,hB⟩
theorem ba_ne{a b:ByteArray}(h:a≠b):(a.toList == b.toList)=false:=by
 rw[Bool.eq_false_iff]
 intro e
 exact h (bytes_same (by rw[Lib.toList_data,Lib.toList_data] at e;simpa using e))
theorem ksame_true(av bv:Value)(l:List ByteArray)(w:World)(ha:StrsIn w av l)(hb:StrsIn w bv l)(hn:l.length<=1000000):
 Calls Tryz.prog 13 #[av,bv] w fun e w'=>e=.returned (.bool true)/\Below w.heap.size w w':=by
 obtain⟨aa,ca,ea⟩:=ha.form
 obtain⟨ab,cb,eb⟩:=hb.form
 subst ea eb
 have HA:=hid ha
 have HB:=hid hb
 clear ha hb
 go_enter Tryz.func13,Tryz.ntmps13
 go_wp2
 go_loopw [5] (fun i wr=>∃ k:Nat,i=.int .i64 k/\k<=l.length/\Below w.heap.size w wr) (fun i _=>l.length-(intOf i).toNat)
 case atStart=>exact⟨0,rfl,Nat.zero_le _,Below.refl _ _⟩
 case round=>
  obtain⟨k,rfl,hk,hBr⟩:=hrel
  by_cases hlt:k<l.length
  ·obtain⟨ga,rfl,hga,hcapa,hca⟩:=HA.out.cellAt (by omega)
   obtain⟨gb,rfl,hgb,hcapb,hcb⟩:=HB.out.cellAt (by omega)
   have c0:wr.cell? ⟨ga,k,none⟩=some (.string l[k]):=(hBr.cell (p:=⟨ga,k,none⟩) hga).trans (hca k _ (by simp[hlt]))
   have c1:wr.cell? ⟨gb,k,none⟩=some (.string l[k]):=(hBr.cell (p:=⟨gb,k,none⟩) hgb).trans (hcb k _ (by simp[hlt]))
   generalize l[k]=T at c0 c1
   clear hca hcb
   go_wp2
   go_region
   all_goals
    go_wp2
    go_roundw
    case rel=>exact⟨k+1,by go_num,by omega,bt hBr (below_same wr 1)⟩
    case measure=>simp[intOf];omega
  ·go_wp2
   go_ret
   exact⟨rfl,hBr⟩
theorem ksame_any(av bv:Value)(l m:List ByteArray)(w:World)(ha:StrsIn w av l)(hb:StrsIn w bv m)(hn:l.length<=1000000)(hm:m.length<=1000000):
 Calls Tryz.prog 13 #[av,bv] w fun e w'=>e=.returned (.bool (decide (l=m)))/\Below w.heap.size w w':=by
 by_cases hlm:l=m
 ·subst hlm
  rw[decide_eq_true rfl]
  exact ksame_true av bv l w ha hb hn
 ·rw[decide_eq_false hlm]
  obtain⟨aa,ca,ea⟩:=ha.form
  obtain⟨ab,cb,eb⟩:=hb.form
  subst ea eb
  have HA:=hid ha
  have HB:=hid hb
  have HNe:=hid hlm
  clear ha hb hlm
  by_cases hlen:l.length=m.length
  ·have HL:Hid (l.length=m.length):=hlen
   rw[<-hlen] at HB hm ⊢
   clear hlen
   go_enter Tryz.func13,Tryz.ntmps13
   go_wp2
   go_loopw [5] (fun i wr=>∃ k:Nat,i=.int .i64 k/\k<=l.length/\Hid (l.take k=m.take k)/\Below w.heap.size w wr) (fun i _=>l.length-(intOf i).toNat)
   case atStart=>exact⟨0,rfl,Nat.zero_le _,by show _ = _;simp,Below.refl _ _⟩
   case round=>
    obtain⟨k,rfl,hk,HT,hBr⟩:=hrel
    by_cases hlt:k<l.length
    ·obtain⟨ga,rfl,hga,hcapa,hca⟩:=HA.out.cellAt (by omega)
     have hkm:k<m.length:=by have:=HL.out;omega
     obtain⟨gb,rfl,hgb,hcapb,hcb⟩:=HB.out.cellAt (by omega)
     have c0:wr.cell? ⟨ga,k,none⟩=some (.string l[k]):=(hBr.cell (p:=⟨ga,k,none⟩) hga).trans (hca k _ (by simp[hlt]))
     have c1:wr.cell? ⟨gb,k,none⟩=some (.string m[k]):=(hBr.cell (p:=⟨gb,k,none⟩) hgb).trans (hcb k _ (by simp[hkm]))
     clear hca hcb
     by_cases he:l[k]=m[k]
     ·have HT2:Hid (l.take (k+1)=m.take (k+1)):=by
       show _ = _
       rw[List.take_succ_eq_append_getElem hlt,List.take_succ_eq_append_getElem hkm,HT.out,he]
      rw[<-he] at c1
      clear he HT
      generalize l[k]=T at c0 c1
      go_wp2
      go_region
      all_goals
       go_wp2
       go_roundw
       case rel=>exact⟨k+1,by go_num,by omega,HT2,bt hBr (below_same wr 1)⟩
       case measure=>simp[intOf];omega
     ·have hne:=ba_ne he
      clear he HT
      generalize l[k]=T at c0 hne
      generalize m[k]=U at c1 hne
      go_wp2
      go_region
      all_goals
       go_wp2
       go_ret
       exact⟨rfl,bt hBr (below_same wr 1)⟩
    ·have hkk:k=l.length:=by omega
     have:=HT.out
     rw[hkk,List.take_length,HL.out,List.take_length] at this
     exact absurd this HNe.out
  ·have hne:¬ ((l.length:Int)=(m.length:Int)):=by omega
   have hne2:((l.length:Int) == (m.length:Int))=false:=by simpa using hne
   clear hlen
   go_enter Tryz.func13,Tryz.ntmps13
   go_wp2
   go_ret
   exact⟨rfl,Below.refl _ _⟩
theorem own_read(s:ByteArray)(w:World)(hs:s.size<=8192)(hR:Ready w):Calls Tryz.prog 17 #[.string s] w (OwnPost s w):=by
 have hM:MaxIs w:=hR.2
 have cP:=pRead_any s w hM hs
 cases hr:M.readS s.data.toList with
 | inl n=>
  have HR:=hid hr
  replace cP:Calls Tryz.prog 33 #[.string s] w fun e w'=>∃ fb,e=.returned (.tuple #[.agg #[.string ⟨#[]⟩,.string ⟨#[]⟩,.slice none 0 0,.slice none 0 0,.slice none 0 0],.iface 91 (.pointer (some ⟨fb,0,none⟩))])/\FaultAt w' fb 1 0 n ⟨#[]⟩/\Below w.heap.size w w':=cP.mono fun e w' h=>by
   obtain⟨h1,h2⟩:=h
   rw[hr] at h2
   obtain⟨fb,h3,h4⟩:=h2
   exact⟨fb,h3,h4,h1⟩
  clear hr hR hM
  go_enter Tryz.func17,Tryz.ntmps17
  go_wp2_with fail
  refine cP.mono ?_
  rintro e w1 ⟨fb,rfl,hF,hB⟩
  go_wp2
  go_ret2
  have hlt:=hF.lt
  exact⟨hB.alloc hB.size _,.inl ⟨n,fb,HR.out,rfl,(World.cell?_alloc_past _ _ _ hlt).trans hF.c0,(World.cell?_alloc_past _ _ _ hlt).trans hF.c1,(World.cell?_alloc_past _ _ _ hlt).trans hF.c2,(World.cell?_alloc_past _ _ _ hlt).trans hF.c3⟩⟩
 | inr p=>
  have HR:=hid hr
  have hsh:=readS_short hr
  replace cP:Calls Tryz.prog 33 #[.string s] w fun e w'=>∃ an cn ab cb af cf,e=.returned (.tuple #[.agg #[.string ⟨p.name.toArray⟩,.string ⟨p.ver.toArray⟩,.slice an p.needs.length cn,.slice ab p.bars.length cb,.slice af p.files.length cf],.nilIface])/\PkVal w' p (.agg #[.string ⟨p.name.toArray⟩,.string ⟨p.ver.toArray⟩,.slice an p.needs.length cn,.slice ab p.bars.length cb,.slice af p.files.length cf])/\Below w.heap.size w w':=cP.mono fun e w' h=>by
   obtain⟨h1,h2⟩:=h
   rw[hr] at h2
   obtain⟨v,h3,h4⟩:=h2
   have h5:=h4
   obtain⟨nv,bv,fv,rfl,g1,g2,g3⟩:=h5
   obtain⟨an,cn,rfl⟩:=g1.form
   obtain⟨ab,cb,rfl⟩:=g2.form
   obtain⟨af,cf,rfl⟩:=g3.form
   exact⟨an,cn,ab,cb,af,cf,h3,h4.val,h1⟩
  clear hr hR hM
  go_enter Tryz.func17,Tryz.ntmps17
  go_wp2_with fail
  refine cP.mono ?_
  rintro e w1 ⟨an,cn,ab,cb,af,cf,rfl,hV,hB⟩
  have cO:=fun wx (hb:Below w1.heap.size w1 wx)=>oneForm_any p _ wx (hV.belowL hb) hsh
  clear hV
  go_wp2_with fail
  refine(cO _ ((Below.refl _ w1).alloc ler _)).mono ?_
  rintro e w2 ⟨T,rfl,hT,hB2⟩
  go_wp2
  go_ret2
  exact⟨bt hB (bt ((Below.refl _ w1).alloc ler _) hB2),.inr ⟨p,T,HR.out,rfl,hT⟩⟩
theorem xRead_any(s:ByteArray)(w:World)(hs:s.size<=8192)(hR:Ready w):Calls Tryz.prog 10 #[.string s] w (CodePost s w):=plain_read s w hR (fun w hR=>own_read s w hs hR)
theorem XAt.tog{W:World}{B x n:Nat}{l:List M.Pk}(h:XAt W B x n l):M.Tog l/\l.length<=600:=by
 obtain⟨d,s,k,b,half,hv,sv,lv,D,h1,h2,h3⟩:=h
 exact⟨h1.tog,h1.size.2⟩
theorem x_fill{w:World}{B x n:Nat}{l:List M.Pk}(h:XAt w B x n l):Calls Tryz.prog 23 #[.pointer (some ⟨x,0,none⟩)] w fun e w'=>∃ q,e=.returned (.float .f64 q)/\¬ (FloatKind.f64.format.order q 4607182418800017408=some Ordering.gt)/\¬ (FloatKind.f64.format.order q 0=some Ordering.lt)/\Below w.heap.size w w':=by
 obtain⟨d,s,k,b,half,hv,sv,lv,D,h1,h2,h3⟩:=h
 obtain⟨z1,z2⟩:=h1.size
 have n1:=h1.n1
 have n2:=h1.n2
 have hS:SecsOf w d n:=by
  have:=h1.disk.secsOf (by rw[h1.secs.1];omega)
  rwa [h1.secs.1] at this
 refine(xFill_any x s k b d half n l w h1.sess h1.store h1.known hS h1.n1 h1.n2 h1.set h1.reads (by omega)).mono ?_
 rintro e w' ⟨q,hq,rfl,hB⟩
 have hr:(24*((n:Int)-8))=((24*(n-8):Nat):Int):=by omega
 obtain⟨q',hq',_,ho⟩:=fill_bits (M.sizeS l) (24*(n-8)) (by omega) (by omega) (by omega)
 rw[hr,hq'] at hq
 cases hq
 have hle:=h1.room
 obtain⟨o1,o2⟩:=ho (by omega)
 exact⟨_,rfl,o1,o2,hB⟩
theorem x_owner{w:World}{B x n:Nat}{l:List M.Pk}(h:XAt w B x n l)(S:ByteArray):Calls Tryz.prog 24 #[.pointer (some ⟨x,0,none⟩),.string S] w (OwnerPost l S.data.toList w):=by
 obtain⟨d,s,k,b,half,hv,sv,lv,D,h1,h2,h3⟩:=h
 exact xOwner_any x d s k b S l w h1.sess h1.store h1.set h1.reads
theorem x_plan0{w:World}{B x n:Nat}{l:List M.Pk}(h:XAt w B x n l):
 Calls Tryz.prog 12 #[.pointer (some ⟨x,0,none⟩),.slice none 0 0] w fun e w'=>∃ a c,e=.returned (.tuple #[.slice a 0 c,okV])/\Below w.heap.size w w':=by
 refine(x_plan h (.slice none 0 0) [] (StrsIn.none w).txts (by decide) (fun t ht=>by cases ht)).mono ?_
 rintro e w' ⟨a,c,he,_,hB⟩
 rw[List.map_nil,M.plan_none h.tog.1] at he
 exact⟨a,c,he,hB⟩
theorem pcompare_any(a b:ByteArray)(w:World)(ha:a.size<=maxLen)(hb:b.size<=maxLen):
 Calls Tryz.prog 16 #[.string a,.string b] w fun e w'=>e=.returned (.int .i64 (M.verC a.data.toList b.data.toList))/\∃ n,w'=w.drewN n:=by
 go_enter Tryz.func16,Tryz.ntmps16
 go_wp2_with (go_at_call 32;refine(compareV_any _ _ _ ha hb).mono ?_;rintro e w' ⟨rfl,n,rfl⟩)
 go_ret
 exact⟨rfl,n,rfl⟩
theorem plainCompare_any(a b:ByteArray)(w:World)(ha:a.size<=maxLen)(hb:b.size<=maxLen):
 Calls Tryz.prog 9 #[.string a,.string b] w fun e w'=>e=.returned (.int .i64 (M.verC a.data.toList b.data.toList))/\∃ n,w'=w.drewN n:=by
 go_enter Tryz.func9,Tryz.ntmps9
 go_wp2_with (go_at_call 16;refine(pcompare_any _ _ _ ha hb).mono ?_;rintro e w' ⟨rfl,n,rfl⟩)
 go_ret
 exact⟨rfl,n,rfl⟩
theorem kpick_any(c:Int)(n:Nat)(w:World)(h1:0<n)(h2:n<=1000000)(h3 : -9223372036854775808<=c)(h4:c<=9223372036854775807):
 Calls Tryz.prog 8 #[.int .i64 c,.int .i64 n] w fun e w'=>∃ m:Nat,m<n/\e=.returned (.int .i64 m)/\w'=w:=by
 have hn0:¬ ((n:Int)=0):=by omega
 have hn1:((n:Int) == 0)=false:=by simp;omega
 by_cases hc:c<0
 ·have hm:(0:Int)<=-((c+1).tmod n)/\-((c+1).tmod n)<n:=by
   rw[<-Int.neg_tmod]
   exact⟨Int.tmod_nonneg _ (by omega),Int.tmod_lt_of_pos _ (by omega)⟩
  obtain⟨m,hm2⟩:=Int.eq_ofNat_of_zero_le hm.1
  have HM:=hid hm2
  have HL:Hid (m<n):=by show _ < _;have:=hm.2;omega
  clear hm hm2
  go_enter Tryz.func8,Tryz.ntmps8
  go_wp2
  go_ret
  exact⟨m,HL.out,by rw[<-HM.out];rfl,rfl⟩
 ·have hm:(0:Int)<=c % n/\c % n<n:=⟨Int.emod_nonneg _ (by omega),Int.emod_lt_of_pos _ (by omega)⟩
  obtain⟨m,hm2⟩:=Int.eq_ofNat_of_zero_le hm.1
  have HM:=hid hm2
  have HL:Hid (m<n):=by show _ < _;have:=hm.2;omega
  clear hm hm2
  go_enter Tryz.func8,Tryz.ntmps8
  go_wp2
  go_ret
  exact⟨m,HL.out,by rw[<-HM.out];rfl,rfl⟩
end Go.Proofs.YtgnfknjopafngabGreatDoor
