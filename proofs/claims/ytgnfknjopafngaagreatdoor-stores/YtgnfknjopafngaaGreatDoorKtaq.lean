import Derived.Test.YtgnfknjopafngaaGreatDoorKtap
set_option maxRecDepth 100000
set_option maxHeartbeats 4000000
namespace Go.Proofs.YtgnfknjopafngaaGreatDoor
open Go.RowKit Go.Maps
structure Zde (W:World) (x d s k b qY n:Nat) (hv sv lv:Value) (D:M.Dk) (l:List M.Pk):Prop where
 ready:Ready W
 sess:Zb6 W x d (.pointer (some ⟨s,0,none⟩))
 store:Zbv W s k b
 known:Zao W k d qY
 disk:Zai W d hv sv lv D
 set:Zaw W b l
 n1:16<=n
 n2:n<=256
 ho:qY<=1
 rest:M.Rest D n qY (M.packed l)
 left:D.left<=9223372036854775807
 tog:M.Tog l
 room:(M.Zbn l:Int)<=24*((n:Int)-8)
 high:∀ j,(j=x\/j=s\/j=k\/Zb1 d hv sv lv j)->1<j
def Zpr(x d s k:Nat)(hv sv lv:Value)(j:Nat):Prop:=j=x\/j=s\/j=k\/Zb1 d hv sv lv j
theorem Zbb.of{p:M.Pk}(h:M.Zi7 p):Zbb p:=Ybj h
theorem Zde.reads{W:World}{x d s k b qY n:Nat}{hv sv lv:Value}{D:M.Dk}{l:List M.Pk}(h:Zde W x d s k b qY n hv sv lv D l):∀ p∈l,Zbb p:=fun p hp=>Zbb.of (h.tog.back p hp)
theorem Zde.size{W:World}{x d s k b qY n:Nat}{hv sv lv:Value}{D:M.Dk}{l:List M.Pk}(h:Zde W x d s k b qY n hv sv lv D l):M.Zbn l<=5952/\l.length<=600:=by
 have h1:=h.room
 have h2:=h.n2
 have h3:=M.Zlm h.tog.back
 omega
theorem Zde.below{W W':World}{x d s k b qY n:Nat}{hv sv lv:Value}{D:M.Dk}{l:List M.Pk}(h:Zde W x d s k b qY n hv sv lv D l)(hb:Below W.heap.size W W'):Zde W' x d s k b qY n hv sv lv D l:=
 ⟨h.ready.below hb,(hb.block x (ges.1 h.sess).1).trans h.sess,(hb.block s (ges.1 h.store).1).trans h.store,Zao.below h.known hb,h.disk.below hb,h.set.below hb,h.n1,h.n2,h.ho,h.rest,h.left,h.tog,h.room,h.high⟩
theorem Zde.secs{W:World}{x d s k b qY n:Nat}{hv sv lv:Value}{D:M.Dk}{l:List M.Pk}(h:Zde W x d s k b qY n hv sv lv D l):D.seen.length=n/\D.held.length=n:=by
 have h1:=h.rest.lies.len
 have h2:=h.rest.same
 exact⟨h1,by rw[h2];exact h1⟩
theorem Zfx{w:World}{a b:Nat}{c c':Array Value}{t t':TypeId}{f f':Nat × Nat}(h:w.heap[a]? = some (.cells c t f))(h':w.heap[b]? = some (.cells c' t' f'))(ht:t≠t'):a≠b:=by
 rintro rfl
 rw[h] at h'
 cases h'
 exact ht rfl
theorem Zai.ty{w:World}{d:Nat}{hv sv lv:Value}{D:M.Dk}(h:Zai w d hv sv lv D){j:Nat}(hj:Zb1 d hv sv lv j):∃ c t,w.heap[j]? = some (.cells c t (0,0))/\(t=103\/t=131\/t=146):=by
 rcases hj with rfl|e|e|e
 ·exact⟨_,_,h.blk,.inl rfl⟩
 ·obtain⟨c,hc⟩:=h.held.type j e;exact⟨_,_,hc,.inr (.inl rfl)⟩
 ·obtain⟨c,hc⟩:=h.seen.type j e;exact⟨_,_,hc,.inr (.inl rfl)⟩
 ·obtain⟨c,hc⟩:=h.late.type j e;exact⟨_,_,hc,.inr (.inr rfl)⟩
theorem Zai.off{w:World}{d:Nat}{hv sv lv:Value}{D:M.Dk}(h:Zai w d hv sv lv D){j:Nat}{c:Array Value}{t:TypeId}{f:Nat × Nat}(hj:w.heap[j]? = some (.cells c t f))(h1:t≠103)(h2:t≠131)(h3:t≠146):¬ Zb1 d hv sv lv j:=fun e=>by
 obtain⟨c',t',e',ht⟩:=h.ty e
 rw[hj] at e'
 cases e'
 rcases ht with rfl|rfl|rfl
 ·exact h1 rfl
 ·exact h2 rfl
 ·exact h3 rfl
theorem Zde.noText{W:World}{x d s k b qY n:Nat}{hv sv lv:Value}{D:M.Dk}{l:List M.Pk}(h:Zde W x d s k b qY n hv sv lv D l):Zbm (Zpr x d s k hv sv lv) W:=by
 obtain⟨h1,h2⟩:=h.secs
 rintro j (rfl|rfl|rfl|e)
 ·exact Zbm.one h.sess (fun s e=>by cases e) (fun a n p e=>by cases e) (by decide) _ rfl
 ·exact Zbm.one h.store (fun s e=>by cases e) (fun a n p e=>by cases e) (by decide) _ rfl
 ·exact Zbm.one h.known (fun s e=>by cases e) (fun a n p e=>by cases e) (by decide) _ rfl
 ·exact h.disk.noText (by have:=h.n1;omega) (by have:=h.n1;omega) j e
def Zq8(w:World)(x d s k qY n:Nat)(hv sv lv:Value)(D:M.Dk)(all:List M.Pk)(w':World):Prop:=
 ∃ nb lv',Ready w'/\Zb6 w' x d (.pointer (some ⟨s,0,none⟩))/\Zbv w' s k nb/\Zao w' k d (1-qY)/\Zaw w' nb all/\Zai w' d hv sv lv' (D.save n (1-qY) (M.packed all))/\Chg (fun j=>j=s\/j=k\/Zb1 d hv sv lv j) w w'/\(∀ j,lv'.ownBlock=some j->lv.ownBlock=some j\/w.heap.size<=j)
theorem Zjn{w:World}{j:Nat}{c:Array Value}{t:TypeId}{f:Nat × Nat}(h:w.heap[j]? = some (.cells c t f))(ht:t≠5):Ztd (fun i=>i=j) w:=by
 rintro i rfl cur fz e
 rw[h] at e
 cases e
 exact ht rfl
theorem Zn9{A:World}{x d s k b qY n:Nat}{hv sv lv:Value}{D:M.Dk}{l all:List M.Pk}(h:Zde A x d s k b qY n hv sv lv D l)(ht:M.Tog all)(hr:(M.Zbn all:Int)<=24*((n:Int)-8)){nb:Nat}{wx:World}(hb:Below A.heap.size A wx)(hs:Zaw wx nb all):
 Calls Tryz.prog 75 #[.pointer (some ⟨s,0,none⟩),.map (some nb),.nilIface] wx fun e w'=>e=.returned .nilIface/\Zq8 A x d s k qY n hv sv lv D all w':=by
 have hx:=h.below hb
 have hrd:∀ p∈all,Zbb p:=fun p hp=>Zbb.of (ht.back p hp)
 have hlen:all.length<=1000:=by have:=M.Zlm ht.back;have:=h.n2;omega
 obtain⟨hf1,hf2⟩:=M.Zo7 ht.back ht.apart h.n1 h.n2 hr
 have hoffS:=hx.disk.off hx.store (by decide) (by decide) (by decide)
 have hoffX:=hx.disk.off hx.sess (by decide) (by decide) (by decide)
 have hsk:s≠k:=Zfx hx.store hx.known (by decide)
 have hxs:x≠s:=Zfx hx.sess hx.store (by decide)
 have hxk:x≠k:=Zfx hx.sess hx.known (by decide)
 refine(Z1x s k b nb d qY n hv sv lv D all wx (Z8f nb all (by omega) hrd) hx.store hx.known hx.disk (h.rest.sane h.left) h.n1 h.n2 h.ho hs hlen hf1 hf2 hoffS).mono ?_
 rintro e w' ⟨rfl,W,hBW,W',hst,hgS,hkn,lv',hdk,hchg,hlv⟩
 have hcS:Chg (fun j=>j=s) W' w':=Chg.grown hgS (fun j e _=>(Option.some.inj e).symm)
 have hsW:W'.heap[s]? = some (.cells #[.pointer (some ⟨k,0,none⟩),.map (some b)] 140 (0,0)):=(hchg.block s (Nat.lt_of_lt_of_le (ges.1 hx.store).1 hBW.size) (fun e=>e.elim hsk hoffS)).trans ((hBW.block s (ges.1 hx.store).1).trans hx.store)
 have hF:Chg (fun j=>j=s\/j=k\/Zb1 d hv sv lv j) wx w':=((Chg.below hBW).then hchg (fun j _ e=>.inr e)).then hcS (fun j _ e=>.inl e)
 have hnt:Zbm (fun j=>j=s\/j=k\/Zb1 d hv sv lv j) wx:=fun j e=>hx.noText j (.inr e)
 refine⟨rfl,nb,lv',?_,?_,hst,?_,?_,?_,?_,?_⟩
 ·exact hx.ready.chg hF (fun j e=>h.high j (.inr e))
 ·exact hx.sess.chg hF (fun e=>e.elim hxs (fun e=>e.elim hxk hoffX))
 ·exact(hcS.block k (ges.1 hkn).1 (fun e=>hsk e.symm)).trans hkn
 ·exact hs.chg hF hnt (fun p hp=>(ht.back p hp).few)
 ·exact hdk.chg hcS (Zjn hsW (by decide)) (fun j hj e=>by subst e;exact hdk.off hsW (by decide) (by decide) (by decide) hj)
 ·exact(Chg.below hb).then hF (fun j _ e=>e)
 ·intro j hj
  rcases hlv j hj with e|e
  ·exact .inl e
  ·exact .inr (by have:=hb.size;have:=hBW.size;omega)
def Znk(R:Sum M.Fa (List M.Pk))(w:World)(x d s k qY n:Nat)(hv sv lv:Value)(D:M.Dk)(e:Ending)(w':World):Prop:=match R with
 | .inl f=>e=.returned (faV f)/\Below w.heap.size w w'
 | .inr all=>e=.returned okV/\Zq8 w x d s k qY n hv sv lv D all w'
theorem Zvp{w:World}{x d s k b qY n:Nat}{hv sv lv:Value}{D:M.Dk}{l:List M.Pk}(h:Zde w x d s k b qY n hv sv lv D l)(R:Sum M.Fa (List M.Pk))(ht:∀ all,R=.inr all->M.Tog all){A:World}(hA:A=w.alloc (.cells okC 23)){e:Ending}{w':World}
 (hp:Zl3 R (fun all e W=>e=.returned .nilIface/\Zq8 A x d s k qY n hv sv lv D all W/\W.heap[w.heap.size]? = some (.cells okC 23 (0,0))) w e w'):Znk R w x d s k qY n hv sv lv D e w':=by
 cases R with
 | inl f=>exact hp
 | inr all=>
  obtain⟨rfl,W,⟨-,⟨nb,lv',h1,h2,h3,h4,h5,h6,h7,h8⟩,hr⟩,hc⟩:=hp
  have hB:Below w.heap.size w A:=by rw[hA];exact(Below.refl _ w).alloc ler _
  have hAs:A.heap.size=w.heap.size+1:=by rw[hA];simp
  have nt:Zbm (fun i=>i=w.heap.size) W:=Zbm.one hr (fun s e=>by cases e) (fun a n p e=>by cases e)
  have hW:=h7.size
  have hne:∀ {j:Nat} {c:Array Value} {t:TypeId} {f:Nat × Nat},W.heap[j]? = some (.cells c t f)->t≠23->j≠w.heap.size:=fun hj hn=>Zfx hj hr hn
  refine⟨rfl,nb,lv',?_,?_,?_,?_,?_,?_,?_,?_⟩
  ·refine h1.chg hc (fun j e=>?_)
   subst e
   have:=h.high x (.inl rfl)
   have:=(ges.1 h.sess).1
   omega
  ·exact h2.chg hc (fun e=>hne h2 (by decide) e)
  ·exact(hc.block s (ges.1 h3).1 (fun e=>hne h3 (by decide) e)).trans h3
  ·exact(hc.block k (ges.1 h4).1 (fun e=>hne h4 (by decide) e)).trans h4
  ·exact h5.chg hc nt (fun p hp=>((ht all rfl).back p hp).few)
  ·exact h6.chg hc (Zjn hr (by decide)) (fun j hj e=>by subst e;exact h6.off hr (by decide) (by decide) (by decide) hj)
  ·exact((Chg.below hB).then h7 (fun j _ e=>e)).then hc (fun j hj e=>by omega)
  ·intro j hj
   rcases h8 j hj with e|e
   ·exact .inl e
   ·exact .inr (by omega)
theorem Z47{w A:World}{x d s k b qY n:Nat}{hv sv lv:Value}{D:M.Dk}{l all:List M.Pk}(h:Zde A x d s k b qY n hv sv lv D l)(hA:A=w.alloc (.cells okC 23)){W:World}(ht:Zq8 A x d s k qY n hv sv lv D all W):W.heap[w.heap.size]? = some (.cells okC 23 (0,0)):=by
 obtain⟨nb,lv',h1,h2,h3,h4,h5,h6,h7,h8⟩:=ht
 have hr:A.heap[w.heap.size]? = some (.cells okC 23 (0,0)):=by rw[hA];exact heap_alloc_new w _
 refine(h7.block _ (ges.1 hr).1 (fun e=>?_)).trans hr
 rcases e with e|e|e
 ·exact Zfx hr h.store (by decide) e
 ·exact Zfx hr h.known (by decide) e
 ·exact h.disk.off hr (by decide) (by decide) (by decide) e
theorem Zt9{qQ:List M.Pk}{qX:List (List UInt8)}{room:Int}{f:M.Fa}(h:M.Zap qQ qX room=.inl f):1<=f.kind/\f.kind<=8:=by
 unfold M.Zap at h
 split at h
 ·rename_i g hg
  cases h
  exact Zlc hg
 ·split at h
  ·cases h;decide
  ·cases h
theorem Zvd{w:World}{x d s k b qY n:Nat}{hv sv lv:Value}{D:M.Dk}{l:List M.Pk}(h:Zde w x d s k b qY n hv sv lv D l)(xv:Value)(qX:List ByteArray)(hx:Zdh w xv qX)(hxn:qX.length<=10000)(hxs:∀ t∈qX,t.size<=8192):
 Calls Tryz.prog 21 #[.pointer (some ⟨x,0,none⟩),xv] w (Znk (M.Zap l (qX.map fun t=>t.data.toList) (24*((n:Int)-8))) w x d s k qY n hv sv lv D):=by
 obtain⟨a,c,exv⟩:=hx.form
 obtain⟨z1,z2⟩:=h.size
 have hok:∀ all,M.Zap l (qX.map fun t=>t.data.toList) (24*((n:Int)-8))=.inr all->M.Tog all/\(M.Zbn all:Int)<=24*((n:Int)-8):=fun all e=>by
  obtain⟨_,_,_,_,_,q1,_,q2⟩:=M.Zi3 e h.tog.back h.tog.apart
  exact⟨q1,q2⟩
 refine(Zvu x d s xv a qX.length c exv (M.Zap l (qX.map fun t=>t.data.toList) (24*((n:Int)-8))) (fun all e W=>e=.returned .nilIface/\Zq8 (w.alloc (.cells okC 23)) x d s k qY n hv sv lv D all W/\W.heap[w.heap.size]? = some (.cells okC 23 (0,0))) w h.ready h.sess (fun f e=>Zt9 e) ?_ (fun all e W hp=>⟨hp.1,hp.2.2⟩)).mono (fun e w' hp=>Zvp h _ (fun all e=>(hok all e).1) rfl hp)
 rintro A rfl
 have hB:Below w.heap.size w (w.alloc (.cells okC 23)):=(Below.refl _ w).alloc ler _
 have hA:=h.below hB
 refine Zuf s k b d qY n l xv qX _ _ hA.ready hA.store hA.known ?_ h.n1 h.n2 hA.set (hx.below hB) hxn hxs (by omega) h.reads ?_
 ·have:=hA.disk.secsOf (by rw[hA.secs.1];have:=h.n1;omega)
  rwa [hA.secs.1] at this
 ·intro all nb wx he hb hs
  obtain⟨k1,k2⟩:=hok all he
  exact(Zn9 hA k1 k2 hb hs).mono (fun e w' hp=>⟨⟨_,hp.1⟩,hp.1,hp.2,Z47 hA rfl hp.2⟩)
theorem Zum:∀ (ns:List (List UInt8)) (i:Nat) (l:List M.Pk) (f:M.Fa),M.Zb4 ns i l=.inl f->f.kind=3
 | [],i,l,f,h=>by cases h
 | x :: ns,i,l,f,h=>by
  unfold M.Zb4 at h
  split at h
  ·cases h;rfl
  ·exact Zum ns _ _ f h
theorem Zy4{qQ:List M.Pk}{qG:List (List UInt8)}{f:M.Fa}(h:M.Za6 qQ qG=.inl f):1<=f.kind/\f.kind<=8:=by
 unfold M.Za6 at h
 split at h
 ·rename_i g hg
  cases h
  have:=Zum _ _ _ _ hg
  omega
 ·split at h
  ·cases h;exact⟨by show 1<=4;omega,by show 4<=8;omega⟩
  ·cases h
theorem Zxw{w:World}{x d s k b qY n:Nat}{hv sv lv:Value}{D:M.Dk}{l:List M.Pk}(h:Zde w x d s k b qY n hv sv lv D l)(xv:Value)(qG:List ByteArray)(hx:Zdh w xv qG)(hxn:qG.length<=10000)(hxs:∀ t∈qG,t.size<=8192):
 Calls Tryz.prog 24 #[.pointer (some ⟨x,0,none⟩),xv] w (Znk (M.Za6 l (qG.map fun t=>t.data.toList)) w x d s k qY n hv sv lv D):=by
 obtain⟨a,c,exv⟩:=hx.form
 obtain⟨z1,z2⟩:=h.size
 have hok:∀ all,M.Za6 l (qG.map fun t=>t.data.toList)=.inr all->M.Tog all/\(M.Zbn all:Int)<=24*((n:Int)-8):=fun all e=>by
  obtain⟨q1,_,q2⟩:=M.Zl8 e h.tog
  exact⟨q1,by have:=h.room;omega⟩
 refine(Zwu x d s xv a qG.length c exv (M.Za6 l (qG.map fun t=>t.data.toList)) (fun all e W=>e=.returned .nilIface/\Zq8 (w.alloc (.cells okC 23)) x d s k qY n hv sv lv D all W/\W.heap[w.heap.size]? = some (.cells okC 23 (0,0))) w h.ready h.sess (fun f e=>Zy4 e) ?_ (fun all e W hp=>⟨hp.1,hp.2.2⟩)).mono (fun e w' hp=>Zvp h _ (fun all e=>(hok all e).1) rfl hp)
 rintro A rfl
 have hB:Below w.heap.size w (w.alloc (.cells okC 23)):=(Below.refl _ w).alloc ler _
 have hA:=h.below hB
 refine Zwx s k b l xv qG _ _ hA.store hA.set (hx.below hB) hxn hxs (by omega) h.reads ?_
 intro all nb wx he hb hs
 obtain⟨k1,k2⟩:=hok all he
 exact(Zn9 hA k1 k2 hb hs).mono (fun e w' hp=>⟨⟨_,hp.1⟩,hp.1,hp.2,Z47 hA rfl hp.2⟩)
theorem Ready.lt{w:World}(h:Ready w):1<w.heap.size:=by
 obtain⟨_,m,h2⟩:=h
 exact World.block_lt_of_cell? _ _ h2
theorem Z1o{n:Nat}(h:16<=n):M.Rest (Zvw n) n 0 (M.packed []):=⟨rfl,rfl,rfl,M.Zrw n h⟩
theorem Z7j(n:Int)(w:World)(hR:Ready w):Calls Tryz.prog 20 #[.int .i64 n] w fun e w'=>∃ x d s k b hv sv,e=.returned (.tuple #[.pointer (some ⟨x,0,none⟩),okV])/\Zde w' x d s k b 0 (Zb5 n) hv sv (.slice none 0 0) (Zvw (Zb5 n)) []/\(∀ j,Zpr x d s k hv sv (.slice none 0 0) j->w.heap.size<=j)/\Below w.heap.size w w':=by
 obtain⟨m1,m2⟩:=Zko n
 have hlt:=hR.lt
 refine(Z7m n w hR).mono ?_
 rintro e w' ⟨x,d,s,k,b,hv,sv,rfl,h1,h2,h3,h4,h5,g1,g2,g3,g4,hB⟩
 have hft:∀ j,Zpr x d s k hv sv (.slice none 0 0) j->w.heap.size<=j:=by
  rintro j (rfl|rfl|rfl|rfl|e|e|e)
  ·exact g1
  ·exact g3
  ·exact g4
  ·exact g2
  ·have:=(h5.held.lt j e).1;omega
  ·have:=(h5.seen.lt j e).1;omega
  ·cases e
 exact⟨x,d,s,k,b,hv,sv,rfl,⟨hR.below hB,h1,h2,h3,h5,h4,m1,m2,Nat.zero_le _,Z1o m1,by show (-1:Int)<=_;omega,M.Yb7,by show ((0:Nat):Int)<=_;omega,fun j hj=>Nat.lt_of_lt_of_le hlt (hft j hj)⟩,hft,hB⟩
namespace M
def Zfl(D:Dk):Prop:=D.dead=false/\D.left = -1
theorem Zfl.left'{D:Dk}(h:Zfl D):(if 0<D.left then D.left-1 else D.left) = -1:=by rw[h.2];decide
theorem Zfl.write{D:Dk}(h:Zfl D)(n:Nat)(x:List UInt8):Zfl (D.write n x):=by
 unfold Dk.write
 rw[if_neg (by rw[h.1,h.2];decide)]
 exact⟨rfl,h.left'⟩
theorem Zfl.sync{D:Dk}(h:Zfl D):Zfl D.sync:=by
 unfold Dk.sync
 rw[if_neg (by rw[h.1,h.2];decide)]
 exact⟨rfl,h.left'⟩
theorem Zfl.body{D:Dk}(h:Zfl D)(n qY:Nat)(t:List UInt8):∀ k,Zfl (D.body n qY t k)
 | 0=>h
 | k+1=>(Zfl.body h n qY t k).write _ _
theorem Zfl.save{D:Dk}(h:Zfl D)(n qY:Nat)(t:List UInt8):Zfl (D.save n qY t):=(((h.body n qY t _).sync).write _ _).sync
end M
def Yav(F:Nat->Prop)(w:World):Prop:=∀ k,F k->∀ s,w.cell? ⟨k,0,none⟩≠some (.string s)
theorem Zso{F:Nat->Prop}{w w':World}{v:Value}{l:List ByteArray}(h:Za8 w v l)(hc:Chg F w w')(hF:Yav F w):Za8 w' v l:=by
 refine(Zas.chg h hc (fun e=>by simpa using e) (fun g hg _ hne f=>?_) ler).wide ler hc.size
 cases l with
 | nil=>exact hne rfl
 | cons c l=>exact hF g f _ (hg (.string c) rfl)
theorem Zde.noStr{W:World}{x d s k b qY n:Nat}{hv sv lv:Value}{D:M.Dk}{l:List M.Pk}(h:Zde W x d s k b qY n hv sv lv D l):Yav (Zpr x d s k hv sv lv) W:=fun j hj=>by
 rcases(h.noText j hj).2.1 with ⟨c,f,e⟩|e
 ·exfalso
  rcases hj with rfl|rfl|rfl|hj
  ·exact Zfx e h.sess (by decide) rfl
  ·exact Zfx e h.store (by decide) rfl
  ·exact Zfx e h.known (by decide) rfl
  ·exact h.disk.off e (by decide) (by decide) (by decide) hj
 ·exact e
def XAt(W:World)(B x n:Nat)(l:List M.Pk):Prop:=∃ d s k b qY hv sv lv D,Zde W x d s k b qY n hv sv lv D l/\M.Zfl D/\∀ j,Zpr x d s k hv sv lv j->B<=j
structure Over (B:Nat) (w w':World):Prop where
 low:Below B w w'
 strs:∀ v l,Za8 w v l->Za8 w' v l
 flt:∀ (j:Nat) (c:Array Value) (f:Nat × Nat),w.heap[j]? = some (.cells c 23 f)->w'.heap[j]? = some (.cells c 23 f)
def XPost(R:Sum M.Fa (List M.Pk))(B x n:Nat)(w:World)(e:Ending)(w':World):Prop:=match R with
 | .inl f=>e=.returned (faV f)/\1<=f.kind/\f.kind<=8/\Below w.heap.size w w'
 | .inr all=>e=.returned okV/\XAt w' B x n all/\Over B w w'
def Zrg(l:List M.Pk):List ByteArray:=(M.Za5 l).map fun t=>⟨t.toArray⟩
theorem Znr(l:List M.Pk):(Zrg l).length=l.length:=by unfold Zrg;rw[List.length_map,M.Zc3]
def Zh1:Sum M.Fa (List M.Pk)->M.Fa
 | .inl f=>f
 | .inr _=>M.Ycn
theorem ba_ne{a b:ByteArray}(h:a≠b):(a.toList == b.toList)=false:=by
 rw[Bool.eq_false_iff]
 intro e
 exact h (Zrx (by rw[Lib.toList_data,Lib.toList_data] at e;simpa using e))
theorem Zlg(av bv:Value)(l m:List ByteArray)(w:World)(ha:Za8 w av l)(hb:Za8 w bv m)(hn:l.length<=1000000)(hm:m.length<=1000000):
 Calls Tryz.prog 67 #[av,bv] w fun e w'=>e=.returned (.bool (decide (l=m)))/\Below w.heap.size w w':=by
 by_cases hlm:l=m
 ·subst hlm
  rw[decide_eq_true rfl]
  exact Zwb av bv l w ha hb hn
 ·rw[decide_eq_false hlm]
  obtain⟨aa,ca,ea⟩:=ha.form
  obtain⟨ab,cb,eb⟩:=hb.form
  subst ea eb
  have HA:=hid ha
  have HB:=hid hb
  have HNe:=hid hlm
  clear ha hb hlm
  by_cases hlen:l.length=m.length
  ·have HL:Hid (l.length=m.length):=hlen
   rw[<-hlen] at HB hm ⊢
   clear hlen
   go_enter Tryz.func67,Tryz.ntmps67
   go_wp2
   go_loopw [5] (fun i wr=>∃ k:Nat,i=.int .i64 k/\k<=l.length/\Hid (l.take k=m.take k)/\Below w.heap.size w wr) (fun i _=>l.length-(intOf i).toNat)
   case atStart=>exact⟨0,rfl,Nat.zero_le _,by show _ = _;simp,Below.refl _ _⟩
   case round=>
    obtain⟨k,rfl,hk,HT,hBr⟩:=hrel
    by_cases hlt:k<l.length
    ·obtain⟨ga,rfl,hga,hcapa,hca⟩:=HA.out.cellAt (by omega)
     have hkm:k<m.length:=by have:=HL.out;omega
     obtain⟨gb,rfl,hgb,hcapb,hcb⟩:=HB.out.cellAt (by omega)
     have c0:wr.cell? ⟨ga,k,none⟩=some (.string l[k]):=(hBr.cell (p:=⟨ga,k,none⟩) hga).trans (hca k _ (by simp[hlt]))
     have c1:wr.cell? ⟨gb,k,none⟩=some (.string m[k]):=(hBr.cell (p:=⟨gb,k,none⟩) hgb).trans (hcb k _ (by simp[hkm]))
     clear hca hcb
     by_cases he:l[k]=m[k]
     ·have HT2:Hid (l.take (k+1)=m.take (k+1)):=by
       show _ = _
       rw[List.take_succ_eq_append_getElem hlt,List.take_succ_eq_append_getElem hkm,HT.out,he]
      rw[<-he] at c1
      clear he HT
      generalize l[k]=T at c0 c1
      go_wp2
      go_region
      all_goals
       go_wp2
       go_roundw
       case rel=>exact⟨k+1,by go_num,by omega,HT2,bt hBr (Zae wr 1)⟩
       case measure=>simp[intOf];omega
     ·have hne:=ba_ne he
      clear he HT
      generalize l[k]=T at c0 hne
      generalize m[k]=U at c1 hne
      go_wp2
      go_region
      all_goals
       go_wp2
       go_ret
       exact⟨rfl,bt hBr (Zae wr 1)⟩
    ·have hkk:k=l.length:=by omega
     have:=HT.out
     rw[hkk,List.take_length,HL.out,List.take_length] at this
     exact absurd this HNe.out
  ·have hne:¬ ((l.length:Int)=(m.length:Int)):=by omega
   have hne2:((l.length:Int) == (m.length:Int))=false:=by simpa using hne
   clear hlen
   go_enter Tryz.func67,Tryz.ntmps67
   go_wp2
   go_ret
   exact⟨rfl,Below.refl _ _⟩
def fC(f:M.Fa):Array Value:=#[.int .i64 f.kind,.int .i64 f.which,.int .i64 f.line,.string ⟨f.name.toArray⟩]
theorem Held.of{l:List M.Pk}{n:Nat}(h:M.Tog l)(hr:(M.Zbn l:Int)<=24*((n:Int)-8))(hn:n<=256):Held l:=by
 have:=M.Zlm h.back
 exact⟨h.back,h.apart,by omega,by omega,fun p hp=>(h.back p hp).few⟩
structure Dn (W:World) (x d n:Nat) (s0 hv sv lv:Value) (D:M.Dk) (Q:List M.Pk->Prop):Prop where
 ready:Ready W
 sess:Zb6 W x d s0
 disk:Zai W d hv sv lv D
 n1:16<=n
 n2:n<=256
 late:∀ p∈D.late,p.1<n
 few:D.late.length<=n
 seen:D.seen.length=n
 held:D.held.length=n
 high:∀ k,Ztf x d hv sv lv k->1<k
 lies:∀ sel:Nat->Bool,∃ qY l,Q l/\Held l/\M.Znh (M.Zbd sel 0 D.late D.held) n qY (M.packed l)
theorem Dn.below{W W':World}{x d n:Nat}{s0 hv sv lv:Value}{D:M.Dk}{Q:List M.Pk->Prop}(h:Dn W x d n s0 hv sv lv D Q)(hb:Below W.heap.size W W'):Dn W' x d n s0 hv sv lv D Q:=
 { h with
   ready:=h.ready.below hb
   sess:=(hb.block x (ges.1 h.sess).1).trans h.sess
   disk:=h.disk.below hb }
theorem Zw5{D:M.Dk}{n:Nat}{P:Nat->List UInt8->Prop}(h:M.Yab D n P):D.held.length=n:=by
 obtain⟨qY,t,_,hl⟩:=h.lies (fun _=>true)
 have:=hl.len
 rwa [M.Zdx] at this
structure OpD where
 kind:Int
 a:Int
 b:Int
 s:ByteArray
def Zql(w:World)(v:Value)(ops:List OpD):Prop:=∃ a cap,v=.slice a ops.length cap/\ops.length<=cap/\cap<=maxLen/\(0<ops.length->∃ g off,a=some ⟨g,off,none⟩/\g<w.heap.size/\
 ∀ i (hi:i<ops.length),w.cell? ⟨g,off+i*4,none⟩=some (.int .i64 ops[i].kind)/\w.cell? ⟨g,off+i*4+1,none⟩=some (.int .i64 ops[i].a)/\w.cell? ⟨g,off+i*4+2,none⟩=some (.int .i64 ops[i].b)/\w.cell? ⟨g,off+i*4+3,none⟩=some (.string ops[i].s))
theorem Zql.below{w w':World}{v:Value}{ops:List OpD}(h:Zql w v ops)(hb:Below w.heap.size w w'):Zql w' v ops:=by
 obtain⟨a,cap,e,h1,h2,h3⟩:=h
 refine⟨a,cap,e,h1,h2,fun h0=>?_⟩
 obtain⟨g,off,e1,hg,hc⟩:=h3 h0
 refine⟨g,off,e1,Nat.lt_of_lt_of_le hg hb.size,fun i hi=>?_⟩
 obtain⟨k0,k1,k2,k3⟩:=hc i hi
 exact⟨(hb.cell (p:=⟨g,off+i*4,none⟩) hg).trans k0,(hb.cell (p:=⟨g,off+i*4+1,none⟩) hg).trans k1,(hb.cell (p:=⟨g,off+i*4+2,none⟩) hg).trans k2,(hb.cell (p:=⟨g,off+i*4+3,none⟩) hg).trans k3⟩
def bytesOf(ops:List OpD):Nat:=(ops.map fun o=>o.s.size).sum
theorem Zrf{ops:List OpD}{k:Nat}(hk:k<ops.length):bytesOf (ops.take (k+1))=bytesOf (ops.take k)+ops[k].s.size:=by
 unfold bytesOf
 rw[List.take_succ_eq_append_getElem hk,List.map_append,List.sum_append]
 simp
theorem Zli(ops:List OpD)(k:Nat):bytesOf (ops.take k)<=bytesOf ops:=by
 have h:bytesOf ops=bytesOf (ops.take k)+bytesOf (ops.drop k):=by
  unfold bytesOf
  rw[<-List.sum_append,<-List.map_append,List.take_append_drop]
 omega
theorem Z6l(v:Value)(ops:List OpD)(w:World)(hv:Zql w v ops)(hs:∀ o∈ops,o.s.size<=1000000000000000000):
 Calls Tryz.prog 39 #[v] w fun e w'=>e=.returned (.bool (decide (ops.length+bytesOf ops<=8192)))/\Below w.heap.size w w':=by
 obtain⟨a,cap,rfl,hc1,hc2,hcell⟩:=hv
 have HC:Hid (0<ops.length->∃ g off,a=some ⟨g,off,none⟩/\g<w.heap.size/\
  ∀ i (hi:i<ops.length),w.cell? ⟨g,off+i*4,none⟩=some (.int .i64 ops[i].kind)/\w.cell? ⟨g,off+i*4+1,none⟩=some (.int .i64 ops[i].a)/\w.cell? ⟨g,off+i*4+2,none⟩=some (.int .i64 ops[i].b)/\w.cell? ⟨g,off+i*4+3,none⟩=some (.string ops[i].s)):=hcell
 have HS:=hid hs
 have hm:cap<=9223372036854775807:=by unfold maxLen at hc2;omega
 clear hcell hs hc2
 by_cases h8:8192<ops.length
 ·have hd:decide (ops.length+bytesOf ops<=8192)=false:=by simp;omega
  rw[hd]
  go_enter Tryz.func39,Tryz.ntmps39
  go_wp2
  go_ret
  exact⟨rfl,Below.refl _ _⟩
 ·obtain⟨D,hD⟩:∃ D,D=decide (ops.length+bytesOf ops<=8192):=⟨_,rfl⟩
  have HD:=hid hD
  rw[<-hD]
  clear hD
  go_enter Tryz.func39,Tryz.ntmps39
  go_wp2
  go_loopw [3,4] (fun n i wr=>∃ k:Nat,i=.int .i64 k/\k<=ops.length/\∃ m:Nat,n=.int .i64 m/\m<=8192/\Hid (m=ops.length+bytesOf (ops.take k))/\Below w.heap.size w wr) (fun _ i _=>ops.length-(intOf i).toNat)
  case atStart=>exact⟨0,rfl,Nat.zero_le _,ops.length,rfl,by omega,by show _ = _;simp[bytesOf],Below.refl _ _⟩
  case round=>
   obtain⟨k,rfl,hk,m,rfl,hm8,HM,hBr⟩:=hrel
   by_cases hlt:k<ops.length
   ·obtain⟨g,off,rfl,hg,hc⟩:=HC.out (by omega)
    obtain⟨_,_,_,o3⟩:=hc k hlt
    have p3:=(hBr.cell (p:=⟨g,off+k*4+3,none⟩) hg).trans o3
    have hsz:=HS.out _ (List.getElem_mem hlt)
    have HB:Hid (bytesOf (ops.take (k+1))=bytesOf (ops.take k)+ops[k].s.size):=Zrf hlt
    generalize ops[k].s=S at p3 hsz HB
    clear hc o3
    by_cases hb:8192<m+S.size
    ·have HD2:Hid (D=false):=by
      show _ = _
      rw[HD.out]
      have h1:=Zli ops (k+1)
      have h2:=HM.out
      have h3:=HB.out
      simp
      omega
     go_wp2
     go_ret
     exact⟨by rw[HD2.out];rfl,hBr⟩
    ·go_wp2
     go_roundw
     case rel=>exact⟨k+1,by go_num,by omega,m+S.size,by go_num,by omega,by show _ = _;have h1:=HM.out;have h2:=HB.out;omega,hBr⟩
     case measure=>simp[intOf];omega
   ·have HD2:Hid (D=true):=by
     show _ = _
     have h2:=HM.out
     have hkk:k=ops.length:=by omega
     rw[hkk,List.take_length] at h2
     rw[HD.out]
     simp
     omega
    go_wp2
    go_ret
    exact⟨by rw[HD2.out];rfl,hBr⟩
theorem Zep{w:World}(ty:TypeId)(B:Nat)(sv:Value)(l:List ByteArray)(h:w.ownsRow B 9 1 sv l.length (l.map Value.string))(hn:l.length<=1000000):
 ∃ v' w',(Builtin.append_ #[43,43] ty #[.slice none 0 0,sv]).run Tryz.prog w=.ok v' w'/\Za8 w' v' l/\Below w.heap.size w w':=by
 obtain⟨i0,hi0,hz0,hz1,hz2⟩:=info_parts Zco
 have h':=h
 obtain⟨hl,⟨rfl,h0⟩|⟨g,cap,cur,rfl,hb,hg,hnc,hcm,hcs,ht⟩⟩:=h
 ·have e0:l=[]:=List.length_eq_zero_iff.1 (by simpa using h0)
  subst e0
  exact⟨_,w,run_append_nothing w _ ty _ i0 Tryz.underlying43 hi0 none none 0 0 0 ler,Za8.none w,Below.refl _ _⟩
 ·obtain⟨v',w',hrun,r1,r2,_⟩:=run_append_own (P:=Tryz.prog) w w.heap.size 43 ty 9 i0 (.string ⟨#[]⟩) 1 16 Tryz.underlying43 hi0 hz0 hz1 hz2 rfl (by decide) (.slice none 0 0) 0 [] (World.ownsRow_nil w _ _ 1) ⟨g,0,none⟩ l.length cap (l.map Value.string) (by simp) (fun j u hu=>by
   rw[Addr.add_lit,Nat.zero_add,h'.cellAt j (by have:=(List.getElem?_eq_some_iff.1 hu).1;simpa using this)]
   exact hu) (fun u hu=>by obtain⟨x,_,rfl⟩:=List.mem_map.1 hu;rfl) (by unfold maxLen;omega) (by omega) ler
  rw[Nat.zero_add,List.nil_append] at r1
  exact⟨v',w',hrun,(Zas.own r1).wide (Nat.zero_le _) ler,⟨r2.os,r2.tape,r2.output,r2.size,fun k hk=>r2.block k hk (by simp[Value.ownBlock])⟩⟩
theorem Zbc.none(w:World):Zbc w (.slice .none 0 0) []:=.inl ⟨rfl,_,_,rfl⟩
theorem Z6x(qQ:List M.Pk)(qX:List ByteArray)(hr:∀ p∈qQ,Zbb p)(ha:M.Apart qQ):∃ (qG:List ByteArray) (fk fw fl:Int) (fn:ByteArray),
 (∀ w e w',Zj8 qQ qX w e w'->∃ a n c ao co,e=.returned (.tuple #[.slice a n c,.slice ao qG.length co,.agg #[.int .i64 fk,.int .i64 fw,.int .i64 fl,.string fn]])/\Za8 w' (.slice ao qG.length co) qG/\Below w.heap.size w w')/\
 (∀ w e w',Zp3 (M.Zar qQ (qX.map fun t=>t.data.toList)) w e w'->∃ ao co,e=.returned (.tuple #[.slice ao qG.length co,.agg #[.int .i64 fk,.int .i64 fw,.int .i64 fl,.string fn]])/\Za8 w' (.slice ao qG.length co) qG/\Below w.heap.size w w')/\qG.length<=qX.length:=by
 cases hp:M.Zar qQ (qX.map fun t=>t.data.toList) with
 | inl f=>
  refine⟨[],f.kind,f.which,f.line,⟨f.name.toArray⟩,?_,?_,Nat.zero_le _⟩
  ·rintro w e w' ⟨hB,hm⟩
   rw[hp] at hm
   exact⟨_,_,_,_,_,hm,Za8.none w',hB⟩
  ·rintro w e w' ⟨hB,hm⟩
   exact⟨_,_,hm,Za8.none w',hB⟩
 | inr q=>
  obtain⟨all,qG⟩:=q
  obtain⟨_,_,_,_,_,hl⟩:=M.Zq3 hp (fun p h=>(hr p h).back) ha
  have e0:(qG.map fun n=>(⟨n.toArray⟩:ByteArray)).length=qG.length:=List.length_map ..
  refine⟨qG.map fun n=>(⟨n.toArray⟩:ByteArray),0,0,0,⟨#[]⟩,?_,?_,by rw[e0,hl,List.length_map];exact Nat.le_refl _⟩
  ·rintro w e w' ⟨hB,hm⟩
   rw[hp] at hm
   obtain⟨av,ov,rfl,h1,h2,_⟩:=hm
   obtain⟨a,c,rfl⟩:=h1.form
   have h3:Za8 w' ov (qG.map fun n=>(⟨n.toArray⟩:ByteArray)):=by
    unfold Za8
    rw[<-Zya,e0]
    exact h2
   obtain⟨ao,co,rfl⟩:=h3.form
   exact⟨_,_,_,_,_,rfl,h3,hB⟩
  ·rintro w e w' ⟨hB,hm⟩
   obtain⟨v,rfl,h3⟩:=hm
   obtain⟨ao,co,rfl⟩:=h3.form
   exact⟨_,_,rfl,h3,hB⟩
end Go.Proofs.YtgnfknjopafngaaGreatDoor
