import Derived.Maps.RangeWalk
import Derived.StringKeys
import Derived.Test.YtgnfknjopafngabGreatDoorKni
set_option maxRecDepth 100000
set_option maxHeartbeats 2000000
namespace Go.Proofs.YtgnfknjopafngabGreatDoor
open Go.Maps Go.RowKit
open Go.WideMaps (keyOf_string_mk)
def heldE(v:Value):Option (DataW Value × List MemPlace):=some (.held v,[])
abbrev KV:Type:=List UInt8 × Value
def toE(p:KV):Lit × DataW Value:=(.string p.1,.held p.2)
def Keys(l:List KV):Prop:=(l.map Prod.fst).Nodup
theorem Keys.perm{l m:List KV}(h:Keys l)(hp:l.Perm m):Keys m:=(hp.map Prod.fst).nodup_iff.1 h
theorem Keys.eq{l:List KV}(h:Keys l){k:List UInt8}{v v':Value}(h1:(k,v)∈l)(h2:(k,v')∈l):v=v':=by
 induction l with
 | nil=>cases h1
 | cons p l ih=>
  obtain⟨n1,n2⟩:=List.nodup_cons.1 (show (p.1 :: l.map Prod.fst).Nodup from h)
  rcases List.mem_cons.1 h1 with e1|m1
  ·rcases List.mem_cons.1 h2 with e2|m2
   ·rw[<-e1] at e2;cases e2;rfl
   ·exact absurd (List.mem_map.2 ⟨_,m2,by rw[<-e1]⟩) n1
  ·rcases List.mem_cons.1 h2 with e2|m2
   ·exact absurd (List.mem_map.2 ⟨_,m1,by rw[<-e2]⟩) n1
   ·exact ih n2 m1 m2
theorem Keys.filter{l:List KV}(h:Keys l)(f:KV->Bool):Keys (l.filter f):=List.Nodup.sublist ((List.filter_sublist (p:=f) (l:=l)).map Prod.fst) h
def lookK(l:List KV)(k:List UInt8):Option Value:=(l.find? fun p=>p.1 == k).map Prod.snd
theorem look_mem{l:List KV}(h:Keys l){k:List UInt8}{v:Value}:lookK l k=some v↔(k,v)∈l:=by
 unfold lookK
 constructor
 ·intro e
  obtain⟨p,hp,rfl⟩:=Option.map_eq_some_iff.1 e
  have h1:=List.find?_some hp
  have h2:=List.mem_of_find?_eq_some hp
  have:p.1=k:=by simpa using h1
  subst this
  exact h2
 ·intro hm
  cases hf:l.find? (fun p=>p.1 == k) with
  | none=>
   have:=List.find?_eq_none.1 hf _ hm
   simp at this
  | some p=>
   have h1:=List.find?_some hf
   have h2:=List.mem_of_find?_eq_some hf
   have e:p.1=k:=by simpa using h1
   subst e
   rw[Option.map_some,h.eq h2 hm]
theorem look_none{l:List KV}{k:List UInt8}:lookK l k=none↔∀ p∈l,p.1≠k:=by
 unfold lookK
 rw[Option.map_eq_none_iff,List.find?_eq_none]
 constructor
 ·intro h p hp;simpa using h p hp
 ·intro h p hp;simpa using h p hp
def putK(l:List KV)(k:List UInt8)(v:Value):List KV:=(k,v) :: l.filter (fun p=>p.1 != k)
def dropK(l:List KV)(k:List UInt8):List KV:=l.filter (fun p=>p.1 != k)
theorem keys_put{l:List KV}(h:Keys l)(k:List UInt8)(v:Value):Keys (putK l k v):=by
 refine List.nodup_cons.2 ⟨fun hm=>?_,h.filter _⟩
 obtain⟨p,hp,e⟩:=List.mem_map.1 hm
 have:=(List.mem_filter.1 hp).2
 simp[e] at this
section
variable {P:Program} {K:TypeId}
def StrMap(P:Program)(K:TypeId)(w:World)(b:Nat)(l:List KV):Prop:=
 ∃ n es,w.ownsMap P K heldE b n (.map es)/\n=es.length/\es.Perm (l.map toE)/\Keys l
theorem own_tight{w:World}{b n:Nat}{es:List (Lit × DataW Value)}(h:w.ownsMap P K heldE b n (.map es)):w.ownsMap P K heldE b es.length (.map es):=by
 obtain⟨xs,clock,hb,F,hs,hD⟩:=h
 refine⟨xs,clock,hb,F,?_,hD⟩
 cases hD
 rw[length_sorted]
 simp
theorem StrMap.perm{w:World}{b:Nat}{l m:List KV}(h:StrMap P K w b l)(hp:l.Perm m):StrMap P K w b m:=by
 obtain⟨n,es,h1,h2,h3,h4⟩:=h
 exact⟨n,es,h1,h2,h3.trans (hp.map _),h4.perm hp⟩
theorem StrMap.keys{w:World}{b:Nat}{l:List KV}(h:StrMap P K w b l):Keys l:=h.choose_spec.choose_spec.2.2.2
theorem StrMap.lt{w:World}{b:Nat}{l:List KV}(h:StrMap P K w b l):b<w.heap.size:=by
 obtain⟨n,es,h1,_⟩:=h
 exact h1.lt
theorem StrMap.kept{w w':World}{b:Nat}{l:List KV}{row:Option Nat}(h:StrMap P K w b l)(hg:w.grownBy w' row)(hne:some b≠row):StrMap P K w' b l:=by
 obtain⟨n,es,h1,h2⟩:=h
 exact⟨n,es,h1.kept hg hne,h2⟩
theorem StrMap.block{w w':World}{b:Nat}{l:List KV}(h:StrMap P K w b l)(hb:w'.heap[b]? = w.heap[b]?):StrMap P K w' b l:=by
 obtain⟨n,es,⟨xs,clock,h0,h1⟩,h2⟩:=h
 exact⟨n,es,⟨xs,clock,hb.trans h0,h1⟩,h2⟩
theorem StrMap.below{w w':World}{B b:Nat}{l:List KV}(h:StrMap P K w b l)(hb:Below B w w')(hlt:b<B):StrMap P K w' b l:=h.block (hb.block b hlt)
theorem StrMap.made(w:World):StrMap P K (w.alloc (.map #[] 0)) w.heap.size []:=⟨0,[],World.ownsMap_made w P K heldE,rfl,.refl _,List.nodup_nil⟩
theorem sameKey_string{a:Lit}{k:List UInt8}:a.sameKey (.string k)=true↔a=.string k:=
 ⟨fun h=>WideAt.sameKey_eq h,fun h=>by subst h;exact WideAt.sameKey_self (by trivial)⟩
theorem has_str{es:List (Lit × DataW Value)}{l:List KV}(h:es.Perm (l.map toE))(k:List UInt8):Maps.has (.map es) (.string k)=(lookK l k).isSome:=by
 rw[Maps.has_eq]
 cases hl:lookK l k with
 | none=>
  rw[Option.isSome_none,List.any_eq_false]
  intro p hp hs
  obtain⟨q,hq,rfl⟩:=List.mem_map.1 (h.mem_iff.1 hp)
  have e:=sameKey_string.1 hs
  simp only[toE] at e
  cases e
  exact look_none.1 hl q hq rfl
 | some v=>
  rw[Option.isSome_some,List.any_eq_true]
  unfold lookK at hl
  obtain⟨p,hp,rfl⟩:=Option.map_eq_some_iff.1 hl
  have h1:=List.find?_some hp
  have h2:=List.mem_of_find?_eq_some hp
  have e:p.1=k:=by simpa using h1
  exact⟨toE p,h.mem_iff.2 (List.mem_map.2 ⟨p,h2,rfl⟩),by subst e;exact sameKey_string.2 rfl⟩
theorem at_str{es:List (Lit × DataW Value)}{l:List KV}(h:es.Perm (l.map toE))(hk:Keys l)(k:List UInt8)(z:DataW Value):(DataW.map es).atKey (.string k) z=(match lookK l k with|some v=>.held v|none=>z):=by
 cases hl:lookK l k with
 | none=>exact Maps.atKey_of_not_has (by rw[has_str h,hl];rfl) z
 | some v=>
  have hm:=(look_mem hk).1 hl
  unfold DataW.atKey
  cases hf:es.find? (fun p=>p.1.sameKey (.string k)) with
  | none=>
   have:=List.find?_eq_none.1 hf _ (h.mem_iff.2 (List.mem_map.2 ⟨_,hm,rfl⟩))
   exact absurd (sameKey_string.2 rfl) this
  | some p=>
   obtain⟨q,hq,e⟩:=List.mem_map.1 (h.mem_iff.1 (List.mem_of_find?_eq_some hf))
   have e2:=sameKey_string.1 (List.find?_some (p:=fun p:Lit × DataW Value=>p.1.sameKey (.string k)) hf)
   subst e
   simp only[toE] at e2
   cases e2
   dsimp only
   rw[hf]
   show DataW.held q.2 = _
   rw[hk.eq (v:=q.2) (v':=v) hq hm]
variable {w:World} {b:Nat} {l:List KV} {T E:TypeId}
theorem StrMap.look(h:StrMap P K w b l)(hk:P.underlying K=some .string)(ht:P.underlying T=some (.map K E)){z:Value}(hz:(zeroValue E).run P w=.ok z w){s:ByteArray}(hs:s.size<=maxLen):
 (Instr.lookup T (.map (some b)) (.string s) false).run P w=.ok ((lookK l s.data.toList).getD z) w:=by
 obtain⟨n,es,h1,h2,h3,h4⟩:=h
 obtain⟨v,ps,hrun,hv⟩:=h1.lookup (string_keyed hk) ht hz (zd:=.held z) (zp:=[]) rfl (keyOf_string_mk hk hs)
 rw[hrun,at_str h3 h4] at *
 cases hl:lookK l s.data.toList with
 | none=>rw[hl] at hv;cases hv;rfl
 | some u=>rw[hl] at hv;cases hv;rfl
theorem StrMap.look2(h:StrMap P K w b l)(hk:P.underlying K=some .string)(ht:P.underlying T=some (.map K E)){z:Value}(hz:(zeroValue E).run P w=.ok z w){s:ByteArray}(hs:s.size<=maxLen):
 (Instr.lookup T (.map (some b)) (.string s) true).run P w=.ok (.tuple #[(lookK l s.data.toList).getD z,.bool (lookK l s.data.toList).isSome]) w:=by
 obtain⟨n,es,h1,h2,h3,h4⟩:=h
 obtain⟨v,ps,hrun,hv⟩:=h1.look_ok (string_keyed hk) ht hz (zd:=.held z) (zp:=[]) rfl (keyOf_string_mk hk hs)
 rw[hrun,has_str h3]
 rw[at_str h3 h4] at hv
 cases hl:lookK l s.data.toList with
 | none=>rw[hl] at hv;cases hv;rfl
 | some u=>rw[hl] at hv;cases hv;rfl
theorem StrMap.put(h:StrMap P K w b l)(hk:P.underlying K=some .string)(ht:P.underlying T=some (.map K E))(hn:l.length<maxLen){s:ByteArray}(hs:s.size<=maxLen)(v:Value):
 ∃ w',(Instr.mapUpdate T (.map (some b)) (.string s) v).run P w=.ok () w'/\StrMap P K w' b (putK l s.data.toList v)/\w.grownBy w' (some b):=by
 obtain⟨n,es,h1,h2,h3,h4⟩:=h
 have hlen:es.length=l.length:=by rw[h3.length_eq,List.length_map]
 obtain⟨w',hrun,r1,r2⟩:=h1.update (string_keyed hk) ht (by omega) (d:=.held v) (ps:=[]) (val:=v) (keyOf_string_mk hk hs) rfl
 refine⟨w',hrun,⟨_,_,own_tight r1,rfl,?_,keys_put h4 _ _⟩,r2⟩
 refine(WideShapes.insert_perm _ _).trans ?_
 unfold putK
 rw[List.map_cons]
 refine List.Perm.cons _ ?_
 refine(h3.filter _).trans ?_
 rw[List.filter_map]
 refine List.Perm.of_eq ?_
 congr 1
theorem StrMap.del(h:StrMap P K w b l)(hk:P.underlying K=some .string)(ht:P.underlying T=some (.map K E)){s:ByteArray}(hs:s.size<=maxLen)(ty:TypeId):
 ∃ w',(Builtin.delete_ #[T,K] ty #[.map (some b),.string s]).run P w=.ok (.tuple #[]) w'/\StrMap P K w' b (dropK l s.data.toList)/\w.grownBy w' (some b):=by
 obtain⟨n,es,h1,h2,h3,h4⟩:=h
 obtain⟨w',hrun,r1,r2⟩:=h1.drop (string_keyed hk) ht (keyOf_string_mk hk hs) ty
 refine⟨w',hrun,⟨_,_,own_tight r1,rfl,?_,h4.filter _⟩,r2.grown⟩
 unfold dropK
 refine(h3.filter _).trans ?_
 rw[List.filter_map]
 refine List.Perm.of_eq ?_
 congr 1
def Ranging(P:Program)(K:TypeId)(w:World)(b r:Nat)(l todo:List KV)(cnt:Nat):Prop:=
 ∃ n es left,w.ranges P K heldE b r n (.map es) left cnt/\es.Perm (l.map toE)/\Keys l/\Keys todo/\∀ p,p∈todo↔p∈l/\left (.string p.1)=true
variable {r:Nat} {todo:List KV} {cnt:Nat}
theorem Ranging.map(h:Ranging P K w b r l todo cnt):StrMap P K w b l:=by
 obtain⟨n,es,left,h1,h2,h3,_⟩:=h
 exact⟨_,es,own_tight h1.owns,rfl,h2,h3⟩
theorem Ranging.left_eq(h:Ranging P K w b r l todo cnt):w.rangeLeft b r=cnt:=by
 obtain⟨n,es,left,h1,_⟩:=h
 exact h1.left_eq
theorem Ranging.lt(h:Ranging P K w b r l todo cnt):r<w.heap.size/\b<w.heap.size/\r≠b:=by
 obtain⟨n,es,left,h1,_⟩:=h
 exact⟨h1.lt,h1.owns.lt,h1.ne⟩
theorem Ranging.kept{w':World}{row:Option Nat}(h:Ranging P K w b r l todo cnt)(hg:w.grownBy w' row)(hb:some b≠row)(hr:some r≠row):Ranging P K w' b r l todo cnt:=by
 obtain⟨n,es,left,h1,h2⟩:=h
 exact⟨n,es,left,h1.kept hg hb hr,h2⟩
theorem Ranging.blocks{w':World}(h:Ranging P K w b r l todo cnt)(hb:w'.heap[b]? = w.heap[b]?)(hr:w'.heap[r]? = w.heap[r]?):Ranging P K w' b r l todo cnt:=by
 obtain⟨n,es,left,⟨xs,clock,since,seen,c0,a1,a2,a3,a4,a5,a6⟩,h2⟩:=h
 exact⟨n,es,left,⟨xs,clock,since,seen,c0,hb.trans a1,a2,a3,a4,hr.trans a5,a6⟩,h2⟩
theorem Ranging.below{w':World}(h:Ranging P K w b r l todo cnt)(hb:Below w.heap.size w w'):Ranging P K w' b r l todo cnt:=h.blocks (hb.block b h.lt.2.1) (hb.block r h.lt.1)
theorem StrMap.range(h:StrMap P K w b l)(hk:P.underlying K=some .string)(ht:P.underlying T=some (.map K E)):
 ∃ w',(Instr.range T (.map (some b))).run P w=.ok (.pointer (some ⟨w.heap.size,0,none⟩)) w'/\Ranging P K w' b w.heap.size l l l.length/\w.grownBy w' none/\w'.heap.size=w.heap.size+1:=by
 obtain⟨n,es,h1,h2,h3,h4⟩:=h
 obtain⟨w',hrun,r1,r2,r3⟩:=h1.range (string_keyed hk) ht
 have hlen:es.length=l.length:=by rw[h3.length_eq,List.length_map]
 refine⟨w',hrun,⟨n,es,Maps.has (.map es),?_,h3,h4,h4,fun p=>⟨fun hp=>⟨hp,?_⟩,fun hp=>hp.1⟩⟩,r2,r3⟩
 ·rw[<-hlen];exact r1
 ·rw[has_str h3,(look_mem h4).2 (show (p.1,p.2)∈l from hp)];rfl
theorem perm_take{l:List KV}(h:Keys l){p:KV}(hp:p∈l):l.Perm (p :: l.filter (fun q=>q.1 != p.1)):=by
 induction l with
 | nil=>cases hp
 | cons q l ih=>
  obtain⟨n1,n2⟩:=List.nodup_cons.1 (show (q.1 :: l.map Prod.fst).Nodup from h)
  rcases List.mem_cons.1 hp with rfl|hp'
  ·rw[List.filter_cons_of_neg (by simp),List.filter_eq_self.2]
   intro x hx
   simp only[bne_iff_ne,ne_eq]
   exact fun e=>n1 (List.mem_map.2 ⟨x,hx,e⟩)
  ·have hne:(q.1 != p.1)=true:=by
    simp only[bne_iff_ne,ne_eq]
    exact fun e=>n1 (List.mem_map.2 ⟨p,hp',e.symm⟩)
   rw[List.filter_cons_of_pos (p:=fun q:KV=>q.1 != p.1) hne]
   exact((ih n2 hp').cons q).trans (List.Perm.swap _ _ _)
theorem Ranging.next(h:Ranging P K w b r l todo cnt)(hk:P.underlying K=some .string)(ty:TypeId):
 (cnt=0/\todo=[]/\(Instr.next (.pointer (some ⟨r,0,none⟩)) false ty).run P w=.ok (.tuple #[.bool false]) w) \/
 ∃ (s:ByteArray) (v:Value) (todo':List KV) (w':World) (cnt':Nat),s.size<=maxLen/\todo.Perm ((s.data.toList,v) :: todo')/\(Instr.next (.pointer (some ⟨r,0,none⟩)) false ty).run P w=.ok (.tuple #[.bool true,.string s,v]) w'/\
  Ranging P K w' b r l todo' cnt'/\cnt'<cnt/\w.grownBy w' (some r)/\w'.heap.size=w.heap.size/\(Instr.entry (.pointer (some ⟨r,0,none⟩))).run P w'=.ok (.tuple #[.string s,v]) w':=by
 obtain⟨n,es,left,h1,h2,h3,h3',h4⟩:=h
 rcases h1.next (string_keyed hk) ty with ⟨a1,a2,a3⟩|⟨key,v,kl,y,w',cnt',hkey,hlk,hv,hat,hrun,hrg,hlt,hgr,hsz,hen⟩
 ·refine .inl ⟨a1,?_,a3⟩
  cases todo with
  | nil=>rfl
  | cons p t=>have:=((h4 p).1 (by simp)).2;rw[a2] at this;cases this
 ·obtain⟨s,rfl,rfl,hs⟩:∃ s:ByteArray,key=.string s/\kl=.string s.data.toList/\s.size<=maxLen:=by
   rw[keyOf_string hk] at hkey
   cases key <;> simp[mapKey,hk] at hkey
   rename_i s
   exact⟨s,rfl,hkey.2.symm,hkey.1⟩
  cases hv
  have hmem:(s.data.toList,v)∈l:=by
   have e:=hat (.lit (.bool true))
   rw[at_str h2 h3] at e
   cases hl:lookK l s.data.toList with
   | none=>rw[hl] at e;cases e
   | some u=>rw[hl] at e;cases e;exact(look_mem h3).1 hl
  have hm:(s.data.toList,v)∈todo:=(h4 _).2 ⟨hmem,hlk⟩
  refine .inr ⟨s,v,todo.filter (fun q=>q.1 != s.data.toList),w',cnt',hs,perm_take h3' hm,hrun,⟨n,es,_,hrg,h2,h3,h3'.filter _,fun p=>?_⟩,hlt,hgr,hsz,hen⟩
  rw[List.mem_filter,h4 p]
  have hsk:((Lit.string p.1).sameKey (.string s.data.toList))=(p.1 == s.data.toList):=by
   cases hc:(p.1 == s.data.toList) with
   | true=>
    have e:p.1=s.data.toList:=by simpa using hc
    exact sameKey_string.2 (by rw[e])
   | false=>
    cases hq:(Lit.string p.1).sameKey (.string s.data.toList) with
    | false=>rfl
    | true=>have e:=sameKey_string.1 hq;injection e with e;rw[e] at hc;simp at hc
  rw[hsk]
  simp only[bne,Bool.and_eq_true,and_assoc]
variable {ops:Array Oper} {rest:List Oper} {o:Oper} {a:Act} {Q:Exit->Act->World->Prop}
theorem wpList_range_str(hg:o.guard=none)(m:Operand)(hop:o.op=Op.range T m)(hk:P.underlying K=some .string)(ht:P.underlying T=some (.map K E))(b:Nat)(l:List KV)(hm:a.eval m=.map (some b))(h:StrMap P K w b l)
 (hK:∀ w',Ranging P K w' b w.heap.size l l l.length->w.grownBy w' none->w'.heap.size=w.heap.size+1->wpList P ops Q rest (a.put o.dst (.pointer (some ⟨w.heap.size,0,none⟩))) w'):
 wpList P ops Q (o :: rest) a w:=by
 refine wpList_plain hg fun K' hK'=>?_
 obtain⟨w',hrun,r1,r2,r3⟩:=h.range hk ht
 unfold Oper.wp
 simp[execOp,hop,hm,hrun,Result.andThen]
 exact hK' _ _ (hK w' r1 r2 r3)
theorem wpList_next_str(hg:o.guard=none)(it:Operand)(hop:o.op=Op.next it false)(hk:P.underlying K=some .string)(b r:Nat)(l todo:List KV)(cnt:Nat)(hit:a.eval it=.pointer (some ⟨r,0,none⟩))(h:Ranging P K w b r l todo cnt)
 (hDone:cnt=0->todo=[]->wpList P ops Q rest (a.put o.dst (.tuple #[.bool false])) w)
 (hMore:∀ (s:ByteArray) (v:Value) (todo':List KV) (w':World) (cnt':Nat),s.size<=maxLen->todo.Perm ((s.data.toList,v) :: todo')->Ranging P K w' b r l todo' cnt'->cnt'<cnt->w.grownBy w' (some r)->w'.heap.size=w.heap.size->
   (Instr.entry (.pointer (some ⟨r,0,none⟩))).run P w'=.ok (.tuple #[.string s,v]) w'->wpList P ops Q rest (a.put o.dst (.tuple #[.bool true,.string s,v])) w'):
 wpList P ops Q (o :: rest) a w:=by
 refine wpList_plain hg fun K' hK'=>?_
 unfold Oper.wp
 rcases h.next hk o.type with ⟨h0,hl,hrun⟩|⟨s,v,todo',w',cnt',hs,hp,hrun,hrg,hlt,hgr,hsz,hen⟩
 ·simp[execOp,hop,hit,hrun,Result.andThen]
  exact hK' _ _ (hDone h0 hl)
 ·simp[execOp,hop,hit,hrun,Result.andThen]
  exact hK' _ _ (hMore s v todo' w' cnt' hs hp hrg hlt hgr hsz hen)
theorem wpList_put_str(hg:o.guard=none)(m x y:Operand)(hop:o.op=Op.mapUpdate T m x y)(hk:P.underlying K=some .string)(ht:P.underlying T=some (.map K E))(b:Nat)(l:List KV)(hm:a.eval m=.map (some b))(h:StrMap P K w b l)(hn:l.length<maxLen)
 (s:ByteArray) (v:Value) (hx:a.eval x=.string s) (hs:s.size<=maxLen) (hy:a.eval y=v)
 (hK:∀ w',StrMap P K w' b (putK l s.data.toList v)->w.grownBy w' (some b)->wpList P ops Q rest (a.put o.dst undef) w'):
 wpList P ops Q (o :: rest) a w:=by
 refine wpList_plain hg fun K' hK'=>?_
 obtain⟨w',hrun,r1,r2⟩:=h.put hk ht hn hs v
 unfold Oper.wp
 simp[execOp,hop,hm,hx,hy,hrun,Result.andThen]
 exact hK' _ _ (hK w' r1 r2)
theorem wpList_del_str(hg:o.guard=none)(m x:Operand)(hop:o.op=Op.call { callee:=Callee.builtin Builtin.delete,args:=#[m,x],argTypes:=#[T,K] })(hk:P.underlying K=some .string)(ht:P.underlying T=some (.map K E))(b:Nat)(l:List KV)(hm:a.eval m=.map (some b))(h:StrMap P K w b l)
 (s:ByteArray) (hx:a.eval x=.string s) (hs:s.size<=maxLen) (hK:∀ w',StrMap P K w' b (dropK l s.data.toList)->w.grownBy w' (some b)->wpList P ops Q rest (a.put o.dst (.tuple #[])) w'):
 wpList P ops Q (o :: rest) a w:=by
 refine wpList_plain hg fun K' hK'=>?_
 obtain⟨w',hrun,r1,r2⟩:=h.del hk ht hs o.type
 unfold Oper.wp
 simp[execOp,hop,resolve,invoke,builtin,hm,hx,hrun,Result.andThen]
 exact hK' _ _ (hK w' r1 r2)
end
namespace M
def pathsOf(l:List Pk):List (List UInt8):=l.flatMap fun p=>p.files.map Fl.path
theorem mem_paths{l:List Pk}{x:List UInt8}:x∈pathsOf l↔∃ p∈l,∃ f∈p.files,f.path=x:=by
 unfold pathsOf
 simp only[List.mem_flatMap,List.mem_map]
theorem Good.once{p:Pk}(h:Good p)(x:List UInt8):(p.files.map Fl.path).count x<=1:=by
 have hn:(p.files.map Fl.path).Nodup:=by
  unfold List.Nodup
  rw[List.pairwise_map]
  refine h.files.imp (fun {f g} ha e=>?_)
  unfold M.apart at ha
  rw[e] at ha
  simp at ha
 exact List.nodup_iff_count.1 hn x
def Shared(l:List Pk)(x:List UInt8):Prop:=1<(pathsOf l).count x\/(x∈pathsOf l/\∃ y∈pathsOf l,over x y=true)
theorem count_two{x:List UInt8}:∀ {l:List Pk},Apart l->(∀ p∈l,Good p)->(1<(pathsOf l).count x↔∃ p∈l,∃ q∈l,p.name≠q.name/\(∃ f∈p.files,f.path=x)/\∃ g∈q.files,g.path=x)
 | [],_,_=>by simp[pathsOf]
 | p :: l,ha,hg=>by
  have hal:Apart l:=(List.nodup_cons.1 (show (p.name :: l.map Pk.name).Nodup from ha)).2
  have hpn:∀ q∈l,p.name≠q.name:=fun q hq e=>(List.nodup_cons.1 (show (p.name :: l.map Pk.name).Nodup from ha)).1 (List.mem_map.2 ⟨q,hq,e.symm⟩)
  have ih:=count_two (x:=x) hal (fun q hq=>hg q (by simp[hq]))
  have e:(pathsOf (p :: l)).count x=(p.files.map Fl.path).count x+(pathsOf l).count x:=by
   unfold pathsOf
   rw[List.flatMap_cons,List.count_append]
  have h1:=(hg p (by simp)).once x
  have hp:0<(p.files.map Fl.path).count x↔∃ f∈p.files,f.path=x:=by
   rw[List.count_pos_iff,List.mem_map]
  have hl:0<(pathsOf l).count x↔∃ q∈l,∃ f∈q.files,f.path=x:=by rw[List.count_pos_iff,mem_paths]
  rw[e]
  constructor
  ·intro h
   by_cases h2:1<(pathsOf l).count x
   ·obtain⟨a,ha,b,hb,r⟩:=ih.1 h2
    exact⟨a,by simp[ha],b,by simp[hb],r⟩
   ·obtain⟨q,hq,hf⟩:=hl.1 (by omega)
    exact⟨p,by simp,q,by simp[hq],hpn q hq,hp.1 (by omega),hf⟩
  ·rintro ⟨a,ha,b,hb,hne,hfa,hfb⟩
   rcases List.mem_cons.1 ha with e1|ha1
   ·rcases List.mem_cons.1 hb with e2|hb1
    ·exact absurd (by rw[e1,e2]) hne
    ·subst e1
     have:=hp.2 hfa
     have:=hl.2 ⟨b,hb1,hfb⟩
     omega
   ·rcases List.mem_cons.1 hb with e2|hb1
    ·subst e2
     have:=hp.2 hfb
     have:=hl.2 ⟨a,ha1,hfa⟩
     omega
    ·have:=ih.2 ⟨a,ha1,b,hb1,hne,hfa,hfb⟩
     omega
theorem shared_iff{l:List Pk}{x:List UInt8}(ha:Apart l)(hg:∀ p∈l,Good p):Shared l x↔Clashes l x:=by
 unfold Shared Clashes
 rw[count_two ha hg,mem_paths]
 constructor
 ·rintro (⟨p,hp,q,hq,hne,⟨f,hf,e⟩,⟨g,hg,e'⟩⟩|⟨⟨p,hp,f,hf,e⟩,y,hy,ho⟩)
  ·exact⟨p,hp,q,hq,f,hf,g,hg,.inr ⟨e.trans e'.symm,hne⟩,e.symm⟩
  ·obtain⟨q,hq,g,hg,e'⟩:=mem_paths.1 hy
   subst e e'
   exact⟨p,hp,q,hq,f,hf,g,hg,.inl ho,rfl⟩
 ·rintro ⟨p,hp,q,hq,f,hf,g,hg,h|⟨h,hne⟩,rfl⟩
  ·exact .inr ⟨⟨p,hp,f,hf,rfl⟩,g.path,mem_paths.2 ⟨q,hq,g,hg,rfl⟩,h⟩
  ·exact .inl ⟨p,hp,q,hq,hne,⟨f,hf,rfl⟩,⟨g,hg,h.symm⟩⟩
theorem shared_min{l:List Pk}(ha:Apart l)(hg:∀ p∈l,Good p):IsMin (Shared l) (clashingS l):=
 (clashing_min ha (fun p hp=>(hg p hp).paths)).congr (fun _=>(shared_iff ha hg).symm)
theorem any1_one{l:List Pk}(ha:Apart l){p:Pk}(hp:p∈l)(c:Ch)(hc:c.name=p.name):l.any (fun q=>fitsS c q)=fitsS c p:=by
 cases h:fitsS c p with
 | true=>exact List.any_eq_true.2 ⟨p,hp,h⟩
 | false=>
  rw[List.any_eq_false]
  intro q hq hf
  have:c.name=q.name:=by
   unfold fitsS at hf
   split at hf
   ·assumption
   ·cases hf
  have e:=ha.eq hp hq (hc.symm.trans this)
  subst e
  rw[h] at hf
  cases hf
theorem any1_none{l:List Pk}(c:Ch)(h:∀ p∈l,p.name≠c.name):l.any (fun q=>fitsS c q)=false:=by
 rw[List.any_eq_false]
 intro q hq hf
 unfold fitsS at hf
 split at hf
 ·rename_i e;exact h q hq e.symm
 ·cases hf
end M
def allowsB(S:ByteArray)(o:Int):Bool:=if S.toList == [60,60] then decide (o<0) else if S.toList == [60,61] then decide (o<=0) else if S.toList == [61] then decide (o=0) else if S.toList == [62,61] then decide (0<=o) else if S.toList == [62,62] then decide (0<o) else true
theorem allows_any(A S V P:ByteArray)(w:World)(hV:V.size<=100000)(hP:P.size<=100000):
 Calls Tryz.prog 269 #[.agg #[.string A,.string S,.string V],.string P] w fun e w'=>e=.returned (.bool (allowsB S (verB P V)))/\Below w.heap.size w w':=by
 have cC:=fun wx=>compareV_any P V wx (by unfold maxLen;omega) (by unfold maxLen;omega)
 replace cC:∀ wx,Calls Tryz.prog 32 #[.string P,.string V] wx fun e w'=>e=.returned (.int .i64 (verB P V))/\∃ n,w'=wx.drewN n:=cC
 generalize hW1:w.alloc (.cells #[.string A,.string S,.string V] 140)=W1
 have HB1:Hid (Below w.heap.size w W1):=by rw[<-hW1];exact(Below.refl _ w).alloc ler _
 obtain⟨_,_,nb3,_⟩:=newB w [.string A,.string S,.string V] 140 0
 have HC:Hid (∀ j u,[Value.string A,.string S,.string V][j]? = some u->W1.cell? ⟨w.heap.size,j,none⟩=some u):=by rw[<-hW1];exact nb3
 have q1:=HC.out 1 _ rfl
 have q2:=HC.out 2 _ rfl
 clear nb3
 generalize verB P V=o at cC
 obtain⟨R,HR⟩:∃ R,Hid (allowsB S o=R):=⟨_,rfl⟩
 rw[HR.out]
 go_enter Tryz.func269,Tryz.ntmps269
 go_wp2_with fail
 refine(cC _).mono ?_
 rintro e w2 ⟨rfl,n,rfl⟩
 clear cC
 have HB2:Hid (Below w.heap.size w (W1.drewN n)):=below_drewN HB1.out n
 by_cases s1:(S.toList == [60,60])=true
 ·have HE:Hid (R=decide (o<0)):=by show _ = _;rw[<-HR.out];unfold allowsB;rw[if_pos s1]
  go_wp2
  go_ret
  exact⟨ret_bool (by rw[HE.out]),HB2.out⟩
 replace s1:(S.toList == [60,60])=false:=by simpa using s1
 by_cases s2:(S.toList == [60,61])=true
 ·have HE:Hid (R=decide (o<=0)):=by show _ = _;rw[<-HR.out];unfold allowsB;rw[if_neg (by rw[s1];decide),if_pos s2]
  go_wp2
  go_ret
  exact⟨ret_bool (by rw[HE.out]),HB2.out⟩
 replace s2:(S.toList == [60,61])=false:=by simpa using s2
 by_cases s3:(S.toList == [61])=true
 ·have HE:Hid (R=decide (o=0)):=by show _ = _;rw[<-HR.out];unfold allowsB;rw[if_neg (by rw[s1];decide),if_neg (by rw[s2];decide),if_pos s3]
  go_wp2
  go_ret
  exact⟨ret_bool (by rw[HE.out,Bool.eq_iff_iff];simp),HB2.out⟩
 replace s3:(S.toList == [61])=false:=by simpa using s3
 by_cases s4:(S.toList == [62,61])=true
 ·have HE:Hid (R=decide (0<=o)):=by show _ = _;rw[<-HR.out];unfold allowsB;rw[if_neg (by rw[s1];decide),if_neg (by rw[s2];decide),if_neg (by rw[s3];decide),if_pos s4]
  go_wp2
  go_ret
  exact⟨ret_bool (by rw[HE.out]),HB2.out⟩
 replace s4:(S.toList == [62,61])=false:=by simpa using s4
 by_cases s5:(S.toList == [62,62])=true
 ·have HE:Hid (R=decide (0<o)):=by show _ = _;rw[<-HR.out];unfold allowsB;rw[if_neg (by rw[s1];decide),if_neg (by rw[s2];decide),if_neg (by rw[s3];decide),if_neg (by rw[s4];decide),if_pos s5]
  go_wp2
  go_ret
  exact⟨ret_bool (by rw[HE.out]),HB2.out⟩
 replace s5:(S.toList == [62,62])=false:=by simpa using s5
 have HE:Hid (R=true):=by show _ = _;rw[<-HR.out];unfold allowsB;rw[if_neg (by rw[s1];decide),if_neg (by rw[s2];decide),if_neg (by rw[s3];decide),if_neg (by rw[s4];decide),if_neg (by rw[s5];decide)]
 go_wp2
 go_ret
 exact⟨ret_bool (by rw[HE.out]),HB2.out⟩
theorem fitsB_allows{A S V N P:ByteArray}(h:(A.toList == N.toList)=true):fitsB A S V N P=allowsB S (verB P V):=fitsB_is h
theorem asksFor_any(A S V N P:ByteArray)(nv bv fv:Value)(w:World)(hV:V.size<=100000)(hP:P.size<=100000):
 Calls Tryz.prog 241 #[.agg #[.string A,.string S,.string V],.agg #[.string N,.string P,nv,bv,fv]] w fun e w'=>e=.returned (.bool (fitsB A S V N P))/\Below w.heap.size w w':=by
 have cC:=fun wx=>allows_any A S V P wx hV hP
 generalize hW1:(w.alloc (.cells #[.string A,.string S,.string V] 140)).alloc (.cells #[.string N,.string P,nv,bv,fv] 87)=W1
 have HB1:Hid (Below w.heap.size w W1):=by rw[<-hW1];exact bt ((Below.refl _ w).alloc ler _) ((Below.refl _ _).alloc ler _)
 by_cases h0:(A.toList == N.toList)=true
 ·rw[fitsB_allows h0]
  generalize allowsB S (verB P V)=B at cC
  subst hW1
  go_enter Tryz.func241,Tryz.ntmps241
  go_wp2_with fail
  refine(cC _).mono ?_
  rintro e w2 ⟨rfl,hB2⟩
  have HB2:Hid (Below w.heap.size w w2):=bt HB1.out hB2
  go_wp2
  go_ret
  exact⟨rfl,HB2.out⟩
 ·replace h0:(A.toList == N.toList)=false:=by simpa using h0
  rw[fitsB_no h0]
  subst hW1
  go_enter Tryz.func241,Tryz.ntmps241
  go_wp2
  go_ret
  exact⟨rfl,HB1.out⟩
def SetIn(w:World)(b:Nat)(l:List M.Pk):Prop:=∃ f:M.Pk->Value,StrMap Tryz.prog 9 w b (l.map fun p=>(p.name,f p))/\∀ p∈l,PkVal w p (f p)
theorem SetIn.apart{w:World}{b:Nat}{l:List M.Pk}(h:SetIn w b l):M.Apart l:=by
 obtain⟨f,h1,_⟩:=h
 have:=h1.keys
 unfold Keys at this
 rw[List.map_map] at this
 exact this
theorem SetIn.below{w w':World}{b:Nat}{l:List M.Pk}(h:SetIn w b l)(hb:Below w.heap.size w w'):SetIn w' b l:=by
 obtain⟨f,h1,h2⟩:=h
 exact⟨f,h1.below hb h1.lt,fun p hp=>(h2 p hp).below hb⟩
theorem SetIn.perm{w:World}{b:Nat}{l k:List M.Pk}(h:SetIn w b l)(hp:l.Perm k):SetIn w b k:=by
 obtain⟨f,h1,h2⟩:=h
 exact⟨f,h1.perm (hp.map _),fun p hk=>h2 p (hp.mem_iff.2 hk)⟩
theorem SetIn.lt{w:World}{b:Nat}{l:List M.Pk}(h:SetIn w b l):b<w.heap.size:=h.choose_spec.1.lt
theorem look_set{l:List M.Pk}{f:M.Pk->Value}(ha:M.Apart l)(n:List UInt8):
 (∃ p∈l,p.name=n/\lookK (l.map fun p=>(p.name,f p)) n=some (f p))\/((∀ p∈l,p.name≠n)/\lookK (l.map fun p=>(p.name,f p)) n=none):=by
 have hk:Keys (l.map fun p=>(p.name,f p)):=by unfold Keys;rw[List.map_map];exact ha
 by_cases h:∃ p∈l,p.name=n
 ·obtain⟨p,hp,e⟩:=h
  exact .inl ⟨p,hp,e,(look_mem hk).2 (List.mem_map.2 ⟨p,hp,by rw[e]⟩)⟩
 ·refine .inr ⟨fun p hp e=>h ⟨p,hp,e⟩,look_none.2 (fun q hq=>?_)⟩
  obtain⟨p,hp,rfl⟩:=List.mem_map.1 hq
  exact fun e=>h ⟨p,hp,e⟩
def zeroPk:Value:=.agg #[.string ⟨#[]⟩,.string ⟨#[]⟩,.slice none 0 0,.slice none 0 0,.slice none 0 0]
theorem zeroPk_run(w:World):(zeroValue 87).run Tryz.prog w=.ok zeroPk w:=by rw[Tryz.zeroValue87];rfl
theorem setMap:Tryz.prog.underlying 108=some (.map 9 87):=by kernel_rfl
theorem has_any(b:Nat)(l:List M.Pk)(c:M.Ch)(w:World)(hl:SetIn w b l)(hs:∀ p∈l,SmallP p)(hc:c.name≠[])(hn:c.name.length<=100000)(hv:c.ver.length<=100000):
 Calls Tryz.prog 192 #[.map (some b),.agg #[.string ⟨c.name.toArray⟩,.string ⟨c.sign.toArray⟩,.string ⟨c.ver.toArray⟩]] w fun e w'=>e=.returned (.bool (l.any fun p=>M.fitsS c p))/\Below w.heap.size w w':=by
 have ha:=hl.apart
 generalize hW1:w.alloc (.cells #[.string ⟨c.name.toArray⟩,.string ⟨c.sign.toArray⟩,.string ⟨c.ver.toArray⟩] 140)=W1
 have HB1:Hid (Below w.heap.size w W1):=by rw[<-hW1];exact(Below.refl _ w).alloc ler _
 have sz:∀ q:List UInt8,(ByteArray.mk q.toArray).size=q.length:=fun q=>by rw[<-len_data]
 obtain⟨f,h1,h2⟩:=hl.below HB1.out
 obtain⟨v,hv1,B,hB,hl1⟩:∃ v,(lookK (l.map fun p=>(p.name,f p)) c.name).getD zeroPk=v/\∃ B,(l.any fun p=>M.fitsS c p)=B/\∀ wx,Below W1.heap.size W1 wx->Calls Tryz.prog 241 #[.agg #[.string ⟨c.name.toArray⟩,.string ⟨c.sign.toArray⟩,.string ⟨c.ver.toArray⟩],v] wx fun e w'=>e=.returned (.bool B)/\Below wx.heap.size wx w':=by
  refine⟨_,rfl,_,rfl,fun wx hb=>?_⟩
  rcases look_set (f:=f) ha c.name with ⟨p,hp,e,hlk⟩|⟨hno,hlk⟩
  ·rw[hlk,M.any1_one ha hp c e.symm]
   obtain⟨nv,bv,fv,ev,_⟩:=h2 p hp
   have:=asksFor_any ⟨c.name.toArray⟩ ⟨c.sign.toArray⟩ ⟨c.ver.toArray⟩ ⟨p.name.toArray⟩ ⟨p.ver.toArray⟩ nv bv fv wx (by rw[sz];exact hv) (by rw[sz];have:=(hs p hp).ver;omega)
   rw[fitsB_c] at this
   rw[Option.getD_some,ev]
   exact this
  ·rw[hlk,M.any1_none c hno]
   have:=asksFor_any ⟨c.name.toArray⟩ ⟨c.sign.toArray⟩ ⟨c.ver.toArray⟩ ⟨#[]⟩ ⟨#[]⟩ (.slice none 0 0) (.slice none 0 0) (.slice none 0 0) wx (by rw[sz];exact hv) (by decide)
   rw[fitsB_no (by rw[Lib.toList_data,Lib.toList_data,beq_eq_false_iff_ne];exact hc)] at this
   exact this
 rw[hB]
 clear hB
 have hrun:∀ W,StrMap Tryz.prog 9 W b (l.map fun p=>(p.name,f p))->(Instr.lookup 108 (.map (some b)) (.string ⟨c.name.toArray⟩) false).run Tryz.prog W=.ok v W:=fun W hW=>by
  rw[hW.look Tryz.underlying9 setMap (zeroPk_run W) (by rw[sz];unfold maxLen;omega)]
  show Result.ok ((lookK _ c.name).getD zeroPk) W = _
  rw[hv1]
 have hr1:=hrun W1 h1
 subst hW1
 clear h1 h2 hrun hv1 sz hl ha hs
 go_enter Tryz.func192,Tryz.ntmps192
 go_wp2_with fail
 refine(hl1 _ (Below.refl _ _)).mono ?_
 rintro e w2 ⟨rfl,hB2⟩
 have HB2:Hid (Below w.heap.size w w2):=bt HB1.out hB2
 go_wp2
 go_ret
 exact⟨rfl,HB2.out⟩
end Go.Proofs.YtgnfknjopafngabGreatDoor
