import Derived.Test.YtgnfknjopafngabGreatDoorKnTa
set_option maxRecDepth 100000
set_option maxHeartbeats 16000000
namespace Go.Proofs.YtgnfknjopafngabGreatDoor
open Go.RowKit
theorem allocs_size:∀ (os:List Obj) (w:World),(os.foldl World.alloc w).heap.size=w.heap.size+os.length
 | [],w=>rfl
 | o :: os,w=>by rw[List.foldl_cons,allocs_size os,World.size_alloc,List.length_cons];omega
theorem allocs_below:∀ (os:List Obj) (w:World),Below w.heap.size w (os.foldl World.alloc w)
 | [],w=>Below.refl _ w
 | o :: os,w=>by
  rw[List.foldl_cons]
  exact bt ((Below.refl _ w).alloc ler o) (allocs_below os _)
theorem allocs_at:∀ (os:List Obj) (w:World) (i:Nat) (o:Obj),os[i]? = some o->(os.foldl World.alloc w).heap[w.heap.size+i]? = some o
 | o1 :: os,w,0,o,h=>by
  rw[List.foldl_cons,(allocs_below os (w.alloc o1)).block _ (by rw[World.size_alloc];omega)]
  cases h
  exact heap_alloc_new w o1
 | o1 :: os,w,i+1,o,h=>by
  rw[List.foldl_cons]
  have:=allocs_at os (w.alloc o1) i o (by simpa using h)
  rwa [World.size_alloc,show w.heap.size+1+i=w.heap.size+(i+1) by omega] at this
def strO(l:List ByteArray):Obj:=.cells (l.map Value.string).toArray 9
def row6(s:Nat)(r:PRow):List Value:=[.slice (some ⟨s,0,none⟩) r.texts.length r.texts.length,.slice (some ⟨s+1,0,none⟩) r.order.length r.order.length,.int .i64 r.k,.int .i64 r.w,.int .i64 r.l,.string r.n]
def pCells:Nat->List PRow->List Value
 | _,[]=>[]
 | s,r :: rs=>row6 s r++pCells (s+1+1) rs
theorem pcells_get:∀ (l:List PRow) (s k:Nat) (hk:k<l.length) (j:Nat),j<6->(pCells s l)[k*6+j]? = (row6 (s+k*2) l[k])[j]?
 | r :: l,s,0,_,j,hj=>by
  rw[pCells,Nat.zero_mul,Nat.zero_add,List.getElem?_append_left (by exact hj)]
  rfl
 | r :: l,s,k+1,hk,j,hj=>by
  rw[pCells,List.getElem?_append_right (by show 6<=_;omega),show (k+1)*6+j-(row6 s r).length=k*6+j by show (k+1)*6+j-6 = _;omega,pcells_get l (s+1+1) k (by simpa using hk) j hj,show s+1+1+k*2=s+(k+1)*2 by omega]
  rfl
def pObjs(l:List PRow):List Obj:=l.flatMap fun r=>[strO r.texts,strO r.order]
theorem pObjs_len(l:List PRow):(pObjs l).length=l.length*2:=by
 induction l with
 | nil=>rfl
 | cons a l ih=>
  show (_ ++ pObjs l).length = _
  rw[List.length_append,ih]
  show 2 + _ = (l.length+1)*2
  omega
theorem strs_blk{w:World}{g:Nat}{l:List ByteArray}{t:TypeId}(h:w.heap[g]? = some (.cells (l.map Value.string).toArray t (0,0))):StrsIn w (.slice (some ⟨g,0,none⟩) l.length l.length) l:=
 .inr ⟨g,l.length,rfl,Nat.le_refl _,Nat.zero_le _,⟨(ges.1 h).1,fun _=>by simp⟩,fun j u hu=>(cell_of_row w _ j _ _ (0,0) h).trans (by simpa using hu)⟩
theorem strs_later{w w':World}{v:Value}{l:List ByteArray}(h:StrsIn w v l)(hb:Below w.heap.size w w'):StrsIn w' v l:=(RowIn.keep h (fun _ _ _ hg=>belowS hb hg)).wide ler hb.size
structure ExAt (w:World) (g k:Nat) (r:PRow):Prop where
 at':∃ a b,w.cell? ⟨g,k*6,none⟩=some (.slice (some ⟨a,0,none⟩) r.texts.length r.texts.length)/\StrsIn w (.slice (some ⟨a,0,none⟩) r.texts.length r.texts.length) r.texts/\w.cell? ⟨g,k*6+1,none⟩=some (.slice (some ⟨b,0,none⟩) r.order.length r.order.length)/\StrsIn w (.slice (some ⟨b,0,none⟩) r.order.length r.order.length) r.order
 c2:w.cell? ⟨g,k*6+2,none⟩=some (.int .i64 r.k)
 c3:w.cell? ⟨g,k*6+3,none⟩=some (.int .i64 r.w)
 c4:w.cell? ⟨g,k*6+4,none⟩=some (.int .i64 r.l)
 c5:w.cell? ⟨g,k*6+5,none⟩=some (.string r.n)
theorem ExAt.below{w w':World}{g k:Nat}{r:PRow}(h:ExAt w g k r)(hb:Below w.heap.size w w'):ExAt w' g k r:=by
 obtain⟨⟨a,b,h1,h2,h3,h4⟩,k2,k3,k4,k5⟩:=h
 exact⟨⟨a,b,(hb.cell (p:=⟨g,_,none⟩) (World.block_lt_of_cell? _ _ h1)).trans h1,strs_later h2 hb,(hb.cell (p:=⟨g,_,none⟩) (World.block_lt_of_cell? _ _ h3)).trans h3,strs_later h4 hb⟩,(hb.cell (p:=⟨g,_,none⟩) (World.block_lt_of_cell? _ _ k2)).trans k2,(hb.cell (p:=⟨g,_,none⟩) (World.block_lt_of_cell? _ _ k3)).trans k3,(hb.cell (p:=⟨g,_,none⟩) (World.block_lt_of_cell? _ _ k4)).trans k4,(hb.cell (p:=⟨g,_,none⟩) (World.block_lt_of_cell? _ _ k5)).trans k5⟩
def ExIn(w:World)(g:Nat):Prop:=∀ k (hk:k<pRows.length),ExAt w g k pRows[k]
theorem ExIn.below{w w':World}{g:Nat}(h:ExIn w g)(hb:Below w.heap.size w w'):ExIn w' g:=fun k hk=>(h k hk).below hb
def pWorld(w:World)(t:TypeId):World:=(pObjs pRows++[Obj.cells (pCells w.heap.size pRows).toArray t]).foldl World.alloc w
theorem exin_new(w:World)(t:TypeId):ExIn (pWorld w t) (w.heap.size+pRows.length*2):=fun k hk=>by
 have hT:(pWorld w t).heap[w.heap.size+pRows.length*2]? = some (.cells (pCells w.heap.size pRows).toArray t (0,0)):=allocs_at _ w _ _ (by
  rw[<-pObjs_len,List.getElem?_append_right ler,Nat.sub_self]
  rfl)
 have hO:∀ j (hj:j<2),(pWorld w t).heap[w.heap.size+(k*2+j)]? = ([strO (pRows[k]).texts,strO (pRows[k]).order])[j]?:=fun j hj=>by
  have e:=tab_get (fun r:PRow=>[strO r.texts,strO r.order]) 2 (fun _=>rfl) pRows k hk j hj
  have hl:k*2+j<(pObjs pRows).length:=by rw[pObjs_len];omega
  match j,hj with
  | 0,_=>exact allocs_at _ w _ _ (by rw[List.getElem?_append_left hl];exact e)
  | 1,_=>exact allocs_at _ w _ _ (by rw[List.getElem?_append_left hl];exact e)
 have hc:∀ j,j<6->(pWorld w t).cell? ⟨w.heap.size+pRows.length*2,k*6+j,none⟩=(row6 (w.heap.size+k*2) pRows[k])[j]?:=fun j hj=>by
  rw[cell_of_row _ _ (k*6+j) _ _ (0,0) hT,List.getElem?_toArray]
  exact pcells_get pRows w.heap.size k hk j hj
 exact⟨⟨w.heap.size+k*2,w.heap.size+k*2+1,hc 0 (by decide),strs_blk (hO 0 (by decide)),hc 1 (by decide),strs_blk (hO 1 (by decide))⟩,hc 2 (by decide),hc 3 (by decide),hc 4 (by decide),hc 5 (by decide)⟩
theorem hid1{p:Prop}(h:p):Hid p:=h
theorem plansT_any(w:World):Calls Tryz.prog 7 #[] w fun e w'=>∃ g,e=.returned (.slice (some ⟨g,0,none⟩) 24 24)/\ExIn w' g/\Below w.heap.size w w':=by
 have hV0:ExIn (pWorld w 45) (w.heap.size+48):=exin_new w _
 have hB0:Below w.heap.size w (pWorld w 45):=allocs_below _ w
 simp only[pWorld,pObjs,pRows,List.flatMap_cons,List.flatMap_nil,List.cons_append,List.nil_append,List.foldl_cons,List.foldl_nil,pCells,row6,strO,List.map_cons,List.map_nil,List.length_cons,List.length_nil,Nat.zero_add,Nat.reduceAdd] at hV0 hB0
 have hV:=hid1 hV0
 have hB:=hid1 hB0
 clear hV0 hB0
 go_enter Tryz.func7,Tryz.ntmps7
 go_wp2
 go_ret
 exact⟨_,rfl,hV.out,hB.out⟩
end Go.Proofs.YtgnfknjopafngabGreatDoor
