import Derived.RangeFuncNested
import Derived.RangeFuncBound
import Derived.RangeFuncCalls
import Derived.RangeFuncLeaves
import Derived.Test.YtgnfknjopafngaaGreatDoorKth
set_option maxRecDepth 100000
set_option maxHeartbeats 1000000
namespace Go.Proofs.YtgnfknjopafngaaGreatDoor
open Go Go.RowKit
variable {F:Fence} {n:Nat} {P:Program}
def Ya4(F:Fence)(n:Nat)(P:Program)(gf:Nat)(fr lb:Array Value)(m:Nat)(encs:Nat->Array Value)(w0:World)(Pre:World->Prop):Prop:=
 ∀ (l:Nat) (J:Nat->(Nat->Prop)->World->Prop) (W:World) (c:Nat->Prop),Pre W->Below w0.heap.size w0 W->
  (∀ k c W1 W2,J k c W1->Chg (fun j=>W.heap.size<=j/\¬ c j) W1 W2->J k c W2)->
  (∀ k c W1 j,J k c W1->c j->w0.heap.size<=j/\j<W1.heap.size)->
  (∀ k c W1,k<m->J k c W1->YieldAt F (n-1) P l (encs k) W1 fun e W'=>e=.returned (.bool true)/\∃ c',J (k+1) c' W'/\Chg c W1 W'/\∀ j,c' j->c j\/W1.heap.size<=j)->
  J 0 c W->
  CallsIn F n P gf (fr++#[.func (.yield l) #[] #[]]++lb) W fun e W'=>(∃ v,e=.returned v)/\∃ c',J m c' W'
theorem Z7a{m m':Nat}{P:Program}{l:Nat}{f:FuncId}{tmps:Array Value}{assign body:Code}{w:World}{R:Ending->World->Prop}(h:RoundIn Fence.wide m P l f tmps assign body w R):RoundIn Fence.wide m' P l f tmps assign body w R:=
 ⟨h.1,fun c cs _=>h.2 c cs (fun d e=>by cases e)⟩
theorem Z4h{m m':Nat}{P:Program}{l:Nat}{args:Array Value}{W:World}{R:Ending->World->Prop}(h:YieldAt Fence.wide m P l args W R):YieldAt Fence.wide m' P l args W R:=by
 obtain⟨fn,tmps,assign,body,hy,hR⟩:=h
 exact⟨fn,tmps,assign,body,hy,Z7a hR⟩
theorem Zhc{G:Nat->Prop}{W:World}{l:Nat}(o:Obj)(h:G l):Chg G W (W.putObj l o):=
 ⟨rfl,rfl,rfl,by simp[World.putObj],fun k _ hn=>World.putObj_heap_other (fun e=>hn (by rw[e];exact h))⟩
theorem Zks{g:Operand}{ps:Array Tmp}{assign body:Code}{Q:Exit->Act->World->Prop}{a:Act}{w:World}
 (hro:F.round=none) (h1:1<=n) {gf:Nat} {fr lb:Array Value} (hg:a.eval g=.func (.func gf) fr lb) (hFg:F.fn gf) (eg:∀ args w,(callFunc gf args).run P w=.ok (.enter gf args) w)
 {m:Nat} {encs:Nat->Array Value} {w0:World} {Pre:World->Prop} (hseq:Ya4 F (n-1) P gf fr lb m encs w0 Pre) (hpre:∀ W,Below w.heap.size w W->Pre W) (hb0:Below w0.heap.size w0 w) (hps:∀ k,(encs k).size=ps.size)
 (I:Nat->(Nat->Prop)->World->Prop) (hIa:∀ k c W1 W2,I k c W1->Chg (fun j=>w.heap.size<=j/\¬ c j) W1 W2->I k c W2) (hIc:∀ k c W1 j,I k c W1->c j->w0.heap.size<=j/\j<W1.heap.size)
 (c0:Nat->Prop) (h0:I 0 c0 w) (a₁:Nat->Act)
 (hassign:∀ (l k:Nat) (W:World) (K:Act->World->Prop),K (a₁ k) W->
   assign.wpIn (F.inRound l) (n-1-1) P (Exit.then K (fun _ _ _=>False)) { tmps:=(ps.zip (encs k)).foldl (fun t (p,v)=>t.setIfInBounds p v) a.tmps,defers:=[] } W)
 (hbody:∀ (l k:Nat) (c:Nat->Prop) (W:World),k<m->I k c W->
   body.wpIn (F.inRound l) (n-1-1) P (fun e _ W'=>e=.normal/\∃ c',I (k+1) c' W'/\Chg c W W'/\∀ j,c' j->c j\/W.heap.size<=j) (a₁ k) W)
 (hdone:∀ (D:Nat) (c:Nat->Prop) (W:World),w.heap.size<=D->¬ c D->I m c W->W.heap[D]? = some (.deferred (some []))->Q .normal { a with defers:={ target:=.collected D,args:=#[] } :: a.defers } W):
 (Code.rangeFunc g ps assign body).wpIn F n P Q a w:=by
 refine wpIn_rangeFunc ?_
 intro fn hfn
 rw[hro]
 obtain⟨rec,hrec⟩:∃ rec:LoopState->Loop,rec=fun st=>{ state:=st,pending:=none,fn,tmps:=a.tmps,params:=ps,assign,body,defers:=w.heap.size }:=⟨_,rfl⟩
 obtain⟨W1,hW1⟩:∃ W1,(w.alloc (.deferred (some []))).alloc (.loop (rec .ready))=W1:=⟨_,rfl⟩
 have hs1:W1.heap.size=w.heap.size+2:=by rw[<-hW1];simp
 have hBW:Below w.heap.size w W1:=by rw[<-hW1];exact bt ((Below.refl _ w).alloc ler _) ((Below.refl _ _).alloc ler _)
 have hL1:W1.heap[w.heap.size+1]? = some (.loop (rec .ready)):=by
  rw[<-hW1]
  have:=World.alloc_heap_new (w.alloc (.deferred (some []))) (.loop (rec .ready))
  rwa [World.size_alloc] at this
 have hK1:W1.heap[w.heap.size]? = some (.deferred (some [])):=by
  rw[<-hW1];exact(Below.heap_alloc _ _ _ (by simp)).trans (World.alloc_heap_new w _)
 refine⟨w.heap.size+1,[{ target:=.collected w.heap.size,args:=#[] }],W1,{ target:=.fn (.func gf) lb,args:=fr++#[.func (.yield (w.heap.size+1)) #[] #[]] },W1,gf,
  fr++#[.func (.yield (w.heap.size+1)) #[] #[]]++lb,W1,?_,?_,?_,?_,fun _=>h1,?_⟩
 ·rw[<-hW1,hrec];exact run_enterLoop_outer _ _ _ _ _
 ·simp only[resolve,hg]
  simp[go_sem]
 ·intro f' hf';simp[Target.leads] at hf';subst hf';exact hFg
 ·simp[invoke,go_sem,eg]
 ·have hI1:I 0 c0 W1:=hIa 0 c0 w W1 h0 (Chg.below hBW)
  refine(hseq (w.heap.size+1)
   (fun k c W=>∃ cc,I k cc W/\¬ cc (w.heap.size+1)/\¬ cc w.heap.size/\W.heap[w.heap.size+1]? = some (.loop (rec .ready))/\W.heap[w.heap.size]? = some (.deferred (some []))/\∀ j,c j↔cc j\/j=w.heap.size+1)
   W1 (fun j=>c0 j\/j=w.heap.size+1) (hpre W1 hBW) (hb0.trans (hBW.mono hb0.size)) ?_ ?_ ?_ ?_).mono ?_
  ·rintro k c W2 W3 ⟨cc,hi,n1,n2,hl,hk,hc⟩ hg'
   have hlt:w.heap.size+1<W2.heap.size:=(ges.1 hl).1
   refine⟨cc,hIa k cc W2 W3 hi (hg'.weak (fun j _ hj=>⟨by omega,fun e=>hj.2 ((hc j).2 (.inl e))⟩)),n1,n2,(hg'.block _ hlt (fun e=>by omega)).trans hl,(hg'.block _ (by omega) (fun e=>by omega)).trans hk,hc⟩
  ·rintro k c W2 j ⟨cc,hi,n1,n2,hl,hk,hc⟩ hj
   rcases(hc j).1 hj with e|rfl
   ·exact hIc k cc W2 j hi e
   ·exact⟨by have:=hb0.size;omega,(ges.1 hl).1⟩
  ·rintro k c W hkm ⟨cc,hi,n1,n2,hl,hk,hc⟩
   have hlt:w.heap.size+1<W.heap.size:=(ges.1 hl).1
   have hy:=run_yield (P:=P) (args:=encs k) hl (by rw[hrec];exact hps k)
   rw[hrec] at hy
   refine⟨fn,_,assign,body,hy,roundIn_of_wpIn hfn (hassign _ k W _ ⟨_,run_beginRound hl (by rw[hrec]),?_⟩)⟩
   have hbusy:({ rec .ready with state:=.busy }:Loop)=rec .busy:=by rw[hrec]
   rw[hbusy]
   have hl2:(W.putObj (w.heap.size+1) (.loop (rec .busy))).heap[w.heap.size+1]? = some (.loop (rec .busy)):=World.putObj_heap_same hlt
   have hk2:(W.putObj (w.heap.size+1) (.loop (rec .busy))).heap[w.heap.size]? = some (.deferred (some [])):=(World.putObj_heap_other (by omega)).trans hk
   have hc2:Chg (fun j=>w.heap.size<=j/\¬ cc j) W (W.putObj (w.heap.size+1) (.loop (rec .busy))):=Zhc _ ⟨by omega,n1⟩
   have hi2:=hIa k cc W _ hi hc2
   have hsz2:(W.putObj (w.heap.size+1) (.loop (rec .busy))).heap.size=W.heap.size:=by simp[World.putObj]
   have hcl:Chg c W (W.putObj (w.heap.size+1) (.loop (rec .busy))):=Zhc _ ((hc _).2 (.inr rfl))
   refine wpIn_mono (hbody _ k cc _ hkm hi2) ?_
   rintro e a3 W3 ⟨rfl,c3,hi3,hg3,hc3⟩
   have hl3:W3.heap[w.heap.size+1]? = some (.loop (rec .busy)):=(hg3.block _ (by omega) n1).trans hl2
   have hk3:W3.heap[w.heap.size]? = some (.deferred (some [])):=(hg3.block _ (by omega) n2).trans hk2
   have he:=run_endRound (P:=P) none hl3
   have hend:({ rec .busy with state:=.ready,pending:=none }:Loop)=rec .ready:=by rw[hrec]
   have n3:∀ j,j<W.heap.size->¬ cc j->¬ c3 j:=fun j hj hn e=>by
    rcases hc3 j e with e|e
    ·exact hn e
    ·omega
   refine⟨_,_,he,rfl,fun j=>c3 j\/j=w.heap.size+1,⟨c3,hIa (k+1) c3 W3 _ hi3 (Zhc _ ⟨by omega,n3 _ hlt n1⟩),n3 _ hlt n1,n3 _ (by omega) n2,?_,(World.putObj_heap_other (by omega)).trans hk3,fun j=>Iff.rfl⟩,?_,?_⟩
   ·rw[World.putObj_heap_same (ges.1 hl3).1]
    rw[hrec]
    rfl
   ·refine(hcl.then hg3 (fun j _ e=>(hc j).2 (.inl e))).then (Zhc (G:=fun j=>j=w.heap.size+1) _ rfl) (fun j _ e=>(hc j).2 (.inr e))
   ·intro j hj
    rcases hj with e|e
    ·rcases hc3 j e with e|e
     ·exact .inl ((hc j).2 (.inl e))
     ·exact .inr (by omega)
    ·exact .inl ((hc j).2 (.inr e))
  ·have hn1:∀ j,w.heap.size<=j->¬ c0 j:=fun j hj e=>by have:=(hIc 0 c0 w j h0 e).2;omega
   exact⟨c0,hI1,hn1 _ (by omega),hn1 _ ler,hL1,hK1,fun j=>Iff.rfl⟩
  ·rintro e W2 ⟨⟨v,rfl⟩,c,cc,hi,n1,n2,hl,hk,hc⟩
   refine⟨none,_,by have:=run_endLoop (P:=P) hl (by rw[hrec];simp);rw[hrec] at this;exact this,?_⟩
   exact hdone _ cc _ ler n2 (hIa m cc W2 _ hi (Zhc _ ⟨by omega,n1⟩)) ((World.putObj_heap_other (by omega)).trans hk)
namespace M
def Zc9(c:Ch)(p:Pk):Bool:=
 if c.name=p.name then
  (if c.sign=[60,60] then decide (Zsu p.ver c.ver<0)
  else if c.sign=[60,61] then decide (Zsu p.ver c.ver<=0)
  else if c.sign=[61] then decide (Zsu p.ver c.ver=0)
  else if c.sign=[62,61] then decide (0<=Zsu p.ver c.ver)
  else if c.sign=[62,62] then decide (0<Zsu p.ver c.ver)
  else true)
 else false
def Zeb(g:List Ch)(l:List Pk):Bool:=g.any fun c=>l.any fun p=>Zc9 c p
def Zc5(a b:List UInt8):List UInt8:=if a=[]\/(b≠[]/\Op.bytesLess b a=true) then b else a
def Zex(l:List Pk)(n:List UInt8):Int:=match l.findIdx? (fun p=>p.name == n) with
 | some i=>i
 | none=>-1
def Zws(l:List Pk)(nm:List UInt8)(n:List UInt8)(g:List Ch):List UInt8:=if Zeb g l=true then n else Zc5 n nm
def Z9h(l:List Pk)(n:List UInt8)(p:Pk):List UInt8:=p.needs.foldl (Zws l p.name) n
def Za2(l:List Pk):List UInt8:=l.foldl (Z9h l) []
def Z9s(l:List Pk)(i:Nat)(p:Pk)(n:List UInt8)(k:Nat):List UInt8:=match l[k]? with
 | none=>n
 | some q=>if Zeb p.bars [q]=true/\k≠i then Zc5 n p.name else n
def Yc5(l:List Pk)(n:List UInt8)(i:Nat):List UInt8:=match l[i]? with
 | none=>n
 | some p=>(List.range l.length).foldl (Z9s l i p) n
def Zbg(l:List Pk):List UInt8:=(List.range l.length).foldl (Yc5 l) []
def clB(i k:Nat)(p:List UInt8)(n:List UInt8)(g:Fl):List UInt8:=if over p g.path=true\/(p=g.path/\i≠k) then Zc5 n p else n
def clA(i k:Nat)(fs:List Fl)(n:List UInt8)(f:Fl):List UInt8:=fs.foldl (clB i k f.path) n
def clK(l:List Pk)(i:Nat)(p:Pk)(n:List UInt8)(k:Nat):List UInt8:=match l[k]? with
 | none=>n
 | some q=>p.files.foldl (clA i k q.files) n
def clI(l:List Pk)(n:List UInt8)(i:Nat):List UInt8:=match l[i]? with
 | none=>n
 | some p=>(List.range l.length).foldl (clK l i p) n
def Za4(l:List Pk):List UInt8:=(List.range l.length).foldl (clI l) []
def Zdd(p q:Pk)(qQ:List Pk)(g:List Ch):Bool:=!Zeb g qQ && (!Zeb g [p] && Zeb g [q])
def Zck(p q:Pk)(qQ:List Pk):Bool:=p.needs.any (Zdd p q qQ)
def Zlp(l qQ:List Pk)(i:Nat)(p:Pk)(f:Bool)(k:Nat):Bool:=match l[k]? with
 | none=>f
 | some q=>if Zck p q qQ=true/\k≠i then false else f
def Zd1(l qQ:List Pk)(i:Nat)(p:Pk):Bool:=(List.range l.length).foldl (Zlp l qQ i p) true
def Zhk(l qQ:List Pk)(n:List UInt8)(i:Nat):List UInt8:=match l[i]? with
 | none=>n
 | some p=>if Zd1 l qQ i p=true then Zc5 n p.name else n
def Ze7(l qQ:List Pk):List UInt8:=(List.range l.length).foldl (Zhk l qQ) []
def Zb2(qQ:List Pk):Nat->List Pk->List (List UInt8)->List (List UInt8) × List Pk
 | 0,l,out=>(out,l)
 | f+1,l,out=>if Ze7 l qQ=[] then (out,l) else match l.findIdx? (fun p=>p.name == Ze7 l qQ) with
  | none=>(out,l)
  | some k=>Zb2 qQ f (l.take k++l.drop (k+1)) (out++[Ze7 l qQ])
theorem Z4e(a b:List UInt8):Zc5 a b=a\/Zc5 a b=b:=by
 unfold Zc5
 by_cases h:a=[]\/(b≠[]/\Op.bytesLess b a=true)
 ·rw[if_pos h];exact .inr rfl
 ·rw[if_neg h];exact .inl rfl
theorem Z4d(l qQ:List Pk)(n:Nat):(List.range n).foldl (Zhk l qQ) []=[]\/∃ p∈l,p.name=(List.range n).foldl (Zhk l qQ) []:=by
 induction n with
 | zero=>exact .inl rfl
 | succ n ih=>
  rw[List.range_succ,List.foldl_append]
  generalize (List.range n).foldl (Zhk l qQ) []=a at ih
  show Zhk l qQ a n=[]\/∃ p∈l,p.name=Zhk l qQ a n
  unfold Zhk
  cases h:l[n]? with
  | none=>exact ih
  | some p=>
   dsimp only
   by_cases hf:Zd1 l qQ n p=true
   ·rw[if_pos hf]
    rcases Z4e a p.name with e|e
    ·rw[e];exact ih
    ·rw[e];exact .inr ⟨p,List.mem_of_getElem? h,rfl⟩
   ·rw[if_neg hf];exact ih
theorem Zqw{l qQ:List Pk}(h:Ze7 l qQ≠[]):∃ k,k<l.length/\l.findIdx? (fun p=>p.name == Ze7 l qQ)=some k:=by
 rcases Z4d l qQ l.length with e|⟨p,hp,e⟩
 ·exact absurd e h
 ·cases hf:l.findIdx? (fun p=>p.name == Ze7 l qQ) with
  | none=>
   have:=List.findIdx?_eq_none_iff.1 hf p hp
   rw[e] at this
   simp[Ze7] at this
  | some k=>exact⟨k,(List.findIdx?_eq_some_iff_getElem.1 hf).1,rfl⟩
theorem Z4m{l qQ:List Pk}{out:List (List UInt8)}(h:Ze7 l qQ=[]):Zb2 qQ l.length l out=(out,l):=by
 cases hl:l.length with
 | zero=>rfl
 | succ n=>unfold Zb2;rw[if_pos h]
theorem Zrr{l qQ:List Pk}{out:List (List UInt8)}{k:Nat}(h:Ze7 l qQ≠[])(hk:k<l.length)(hf:l.findIdx? (fun p=>p.name == Ze7 l qQ)=some k):
 Zb2 qQ l.length l out=Zb2 qQ (l.take k++l.drop (k+1)).length (l.take k++l.drop (k+1)) (out++[Ze7 l qQ]):=by
 obtain⟨n,hn⟩:∃ n,l.length=n+1:=⟨l.length-1,by omega⟩
 have e:(l.take k++l.drop (k+1)).length=n:=by rw[List.length_append,List.length_take,List.length_drop];omega
 rw[e,hn]
 conv=>lhs;unfold Zb2
 rw[if_neg h,hf]
end M
theorem Zd2{α β:Type}(f:β->α->β)(b:β){l:List α}{k:Nat}(hk:k<l.length):(l.take (k+1)).foldl f b=f ((l.take k).foldl f b) l[k]:=by
 rw[List.take_succ_eq_append_getElem hk,List.foldl_append];rfl
theorem Zdb{β:Type}(f:β->Nat->β)(b:β)(k:Nat):(List.range (k+1)).foldl f b=f ((List.range k).foldl f b) k:=by
 rw[List.range_succ,List.foldl_append];rfl
theorem Zs1(c:Int)(w:World):
 Calls Tryz.prog 285 #[.int .u8 c] w fun e w'=>e=.returned (.bool (M.Zih c))/\w'=w:=by
 go_enter Tryz.func285,Tryz.ntmps285
 go_wp2_with (go_at_call 211;refine(Zdf _ _).mono ?_;rintro e w' ⟨rfl,rfl⟩)
 go_ret
 exact⟨rfl,rfl⟩
theorem Z2z(s:ByteArray)(w:World)(hs:s.size<=maxLen):
 Calls Tryz.prog 252 #[.string s,.func (.func 285) #[] #[]] w fun e w'=>e=.returned (.int .i64 (M.lead M.Zih s.data.toList))/\w'=w:=
 Ztl 285 M.Zih (enters_of Tryz.func285 (by kernel_rfl) rfl) Zs1 s w hs
theorem Z6c(s:ByteArray)(w:World)(hs:s.size<=maxLen):
 Calls Tryz.prog 252 #[.string s,.func (.func 211) #[] #[]] w fun e w'=>e=.returned (.int .i64 (M.lead M.isD s.data.toList))/\w'=w:=
 Ztl 211 M.isD (enters_of Tryz.func211 (by kernel_rfl) rfl) Zdf s w hs
theorem Zpm(c:Int)(w:World):
 Calls Tryz.prog 292 #[.int .i64 c] w fun e w'=>e=.returned (.bool false)/\w'=w:=by
 go_enter Tryz.func292,Tryz.ntmps292
 go_wp2
 go_ret
 exact⟨Zad (by simp),rfl⟩
theorem Zjh(x y:Int)(w:World):
 Calls Tryz.prog 289 #[.int .i64 x,.int .i64 y] w fun e w'=>e=.returned (.int .i64 (M.Zdu x y))/\w'=w:=by
 by_cases h1:x<y
 ·go_enter Tryz.func289,Tryz.ntmps289
  go_wp2_with (go_at_call 292;refine(Zpm _ _).mono ?_;rintro e w' ⟨rfl,rfl⟩)
  go_ret
  exact⟨Za7 (by unfold M.Zdu;rw[if_pos h1]),rfl⟩
 ·by_cases h2:y<x
  ·go_enter Tryz.func289,Tryz.ntmps289
   go_wp2_with (go_at_call 292;refine(Zpm _ _).mono ?_;rintro e w' ⟨rfl,rfl⟩)
   go_ret
   exact⟨Za7 (by unfold M.Zdu;rw[if_neg (by omega),if_pos h2]),rfl⟩
  ·go_enter Tryz.func289,Tryz.ntmps289
   go_wp2_with (go_at_call 292;refine(Zpm _ _).mono ?_;rintro e w' ⟨rfl,rfl⟩)
   go_ret
   exact⟨Za7 (by unfold M.Zdu;rw[if_neg (by omega),if_neg (by omega)]),rfl⟩
theorem Z36(s:ByteArray)(k:Nat)(h:k<s.size):(M.ranks s.data.toList).getD k 0=M.rk s[k].toNat:=by
 unfold M.ranks
 have h':k<s.data.toList.length:=by simpa using h
 rw[List.getD_eq_getElem?_getD,List.getElem?_map,List.getElem?_eq_getElem h']
 rfl
theorem Z3q(s:ByteArray)(k:Nat)(h:s.size<=k):(M.ranks s.data.toList).getD k 0=0:=by
 unfold M.ranks
 have h':s.data.toList.length<=k:=by simpa using h
 rw[List.getD_eq_getElem?_getD,List.getElem?_eq_none (by simpa using h')]
 rfl
theorem Z7q(s:ByteArray)(k:Nat)(w:World)(h:s.size<=k):
 Calls Tryz.prog 290 #[.string s,.int .i64 k] w fun e w'=>e=.returned (.int .i64 0)/\w'=w:=by
 go_enter Tryz.func290,Tryz.ntmps290
 go_wp2
 go_ret
 exact⟨rfl,rfl⟩
theorem Ybf(s:ByteArray)(k:Nat)(w:World)(h:k<s.size):
 Calls Tryz.prog 290 #[.string s,.int .i64 k] w fun e w'=>e=.returned (.int .i64 (M.rk s[k].toNat))/\w'=w:=by
 have hb:=s[k].toNat_lt
 by_cases h1:(s[k].toNat:Int)=126
 ·have h1':((s[k].toNat:Int) == 126)=true:=by simpa using h1
  have H1:=hid h1
  clear h1
  go_enter Tryz.func290,Tryz.ntmps290
  go_wp2
  go_ret
  exact⟨Za7 (by unfold M.rk;rw[if_pos H1.out]),rfl⟩
 ·have h1':((s[k].toNat:Int) == 126)=false:=by simpa using h1
  have H1:=hid h1
  clear h1
  by_cases h2:M.isLt s[k].toNat=true
  ·go_enter Tryz.func290,Tryz.ntmps290
   go_wp2_with (go_at_call 213;refine(Zi8 _ _).mono ?_;rintro e w' ⟨rfl,rfl⟩)
   go_ret
   exact⟨Za7 (by unfold M.rk;rw[if_neg H1.out,if_pos h2]),rfl⟩
  ·have h2':M.isLt s[k].toNat=false:=by simpa using h2
   clear h2
   go_enter Tryz.func290,Tryz.ntmps290
   go_wp2_with (go_at_call 213;refine(Zi8 _ _).mono ?_;rintro e w' ⟨rfl,rfl⟩)
   go_ret
   exact⟨Za7 (by unfold M.rk;rw[if_neg H1.out,h2'];simp),rfl⟩
theorem Zzt(s:ByteArray)(k:Nat)(w:World):
 Calls Tryz.prog 290 #[.string s,.int .i64 k] w fun e w'=>e=.returned (.int .i64 (M.Zf8 s.data.toList k))/\w'=w:=by
 unfold M.Zf8
 by_cases h:k<s.size
 ·rw[Z36 s k h];exact Ybf s k w h
 ·rw[Z3q s k (by omega)];exact Z7q s k w (by omega)
theorem Z41(a b:ByteArray)(w:World)(ha:a.size<=maxLen)(hb:b.size<=maxLen):
 Calls Tryz.prog 286 #[.string a,.string b] w fun e w'=>e=.returned (.int .i64 (M.Zxj a.data.toList b.data.toList))/\w'=w:=by
 unfold maxLen at ha hb
 go_enter Tryz.func286,Tryz.ntmps286
 go_wp2
 go_loop [5,6,12] (fun _ _ c=>∃ k:Nat,(k:Int)<=max (a.size:Int) (b.size:Int)/\c=.int .i64 k/\∀ j,j<k->M.Zf8 a.data.toList j=M.Zf8 b.data.toList j) (fun _ _ c=>(max (a.size:Int) (b.size:Int)-intOf c).toNat)
 case atStart=>exact⟨0,by omega,rfl,fun j h=>by omega⟩
 case round=>
  obtain⟨k,hk1,rfl,hj⟩:=hrel
  have HJ:=hid hj
  clear hj
  by_cases hlt:(k:Int)<max (a.size:Int) (b.size:Int)
  ·by_cases hd:M.Zdu (M.Zf8 a.data.toList k) (M.Zf8 b.data.toList k)=0
   ·have hd':(M.Zdu (M.Zf8 a.data.toList k) (M.Zf8 b.data.toList k) != 0)=false:=by simpa using hd
    have HD:=hid hd
    clear hd
    go_wp2_with (first|(go_at_call 290;refine(Zzt _ _ _).mono ?_;rintro e w' ⟨rfl,rfl⟩)|(go_at_call 289;refine(Zjh _ _ _).mono ?_;rintro e w' ⟨rfl,rfl⟩))
    go_round
    case rel=>
     refine⟨k+1,by omega,by go_num,fun j hj=>?_⟩
     by_cases hjk:j<k
     ·exact HJ.out j hjk
     ·obtain rfl:j=k:=by omega
      exact M.Zdv.mp HD.out
    case measure=>simp[intOf];omega
   ·have hd':(M.Zdu (M.Zf8 a.data.toList k) (M.Zf8 b.data.toList k) != 0)=true:=by simpa using hd
    have HD:=hid hd
    clear hd
    go_wp2_with (first|(go_at_call 290;refine(Zzt _ _ _).mono ?_;rintro e w' ⟨rfl,rfl⟩)|(go_at_call 289;refine(Zjh _ _ _).mono ?_;rintro e w' ⟨rfl,rfl⟩))
    go_ret
    exact⟨Za7 (M.Zq6 HJ.out HD.out).symm,rfl⟩
  ·go_wp2
   go_ret
   exact⟨Za7 (M.Zq4 HJ.out (by simp;omega) (by simp;omega)).symm,rfl⟩
theorem Zva(s:ByteArray)(w:World):
 Calls Tryz.prog 293 #[.string s,.int .u8 48] w fun e w'=>e=.returned (.string ⟨(M.strip s.data.toList).toArray⟩)/\w'=w:=by
 go_enter Tryz.func293,Tryz.ntmps293
 go_wp2
 go_loop [0] (fun v=>∃ t:ByteArray,v=.string t/\t.size<=s.size/\M.strip t.data.toList=M.strip s.data.toList) (fun v=>lenOf v)
 case atStart=>exact⟨s,rfl,Nat.le_refl _,rfl⟩
 case round=>
  obtain⟨t,rfl,hts,ht⟩:=hrel
  have HT:=hid ht
  clear ht
  by_cases h0:0<t.size
  ·by_cases h1:(t[0].toNat:Int)=48
   ·have h1':((t[0].toNat:Int) == 48)=true:=by simpa using h1
    have H1:=hid h1
    clear h1
    go_wp2
    go_round
    case rel=>
     refine⟨_,rfl,?_,?_⟩
     ·have:=ext_size t 1 t.size;omega
     ·rw[Zfc,<-HT.out]
      exact M.Zvc (by simpa using h0) (by have:=H1.out;show t[0].toNat=48;omega)
    case measure=>simp[lenOf];omega
   ·have h1':((t[0].toNat:Int) == 48)=false:=by simpa using h1
    have H1:=hid h1
    clear h1
    go_wp2
    go_ret
    refine⟨Zj3 ?_,rfl⟩
    refine Zf5 ?_
    show t.data.toList = _
    rw[Zoa,<-HT.out,M.Z3c (by simpa using h0) (by have:=H1.out;show ¬ t[0].toNat=48;omega)]
  ·go_wp2
   go_ret
   refine⟨Zj3 ?_,rfl⟩
   refine Zf5 ?_
   show t.data.toList = _
   rw[Zoa,<-HT.out,M.strip_nil (by simpa using h0)]
theorem Zmo(s:ByteArray)(w:World):
 Calls Tryz.prog 291 #[.string s,.string ⟨#[48]⟩] w fun e w'=>e=.returned (.string ⟨(M.strip s.data.toList).toArray⟩)/\w'=w:=by
 by_cases h0:s.toList.isEmpty=true
 ·go_enter Tryz.func291,Tryz.ntmps291
  go_wp2
  go_ret
  refine⟨Zj3 (Zf5 ?_),rfl⟩
  show s.data.toList = _
  rw[Lib.toList_data] at h0
  rw[Zoa,M.strip_nil (by simp at h0;simp[h0])]
 ·have h0':s.toList.isEmpty=false:=by simpa using h0
  clear h0
  go_enter Tryz.func291,Tryz.ntmps291
  go_wp2_with (go_at_call 293;refine(Zva _ _).mono ?_;rintro e w' ⟨rfl,rfl⟩)
  go_ret
  exact⟨rfl,rfl⟩
theorem Zwt(a b:ByteArray)(w:World):
 Calls Tryz.prog 180 #[.string a,.string b] w fun e w'=>e=.returned (.int .i64 (Lib.compareBytes a.data.toList b.data.toList))/\w'=w:=by
 go_enter Tryz.func180,Tryz.ntmps180
 go_wp2
 rw[run_callFunc_extern Tryz.func231 (by kernel_rfl) (by kernel_rfl) (by kernel_rfl) (e:=Extern.BytealgCompare.compare) (by kernel_rfl),Lib.run_compareString]
 simp only[Result.andThen]
 rw[Oper.upon_value]
 go_wp2
 go_ret
 exact⟨rfl,rfl⟩
theorem Zm0(a b:ByteArray)(w:World):
 Calls Tryz.prog 141 #[.string a,.string b] w fun e w'=>e=.returned (.int .i64 (Lib.compareBytes a.data.toList b.data.toList))/\w'=w:=by
 go_enter Tryz.func141,Tryz.ntmps141
 go_wp2_with (go_at_call 180;refine(Zwt _ _ _).mono ?_;rintro e w' ⟨rfl,rfl⟩)
 go_ret
 exact⟨rfl,rfl⟩
theorem Zys(a b:ByteArray)(w:World):
 Calls Tryz.prog 287 #[.string a,.string b] w fun e w'=>e=.returned (.int .i64 (M.Yaa a.data.toList b.data.toList))/\w'=w:=by
 by_cases h:M.Zdu (M.strip a.data.toList).length (M.strip b.data.toList).length=0
 ·have h':(M.Zdu (M.strip a.data.toList).length (M.strip b.data.toList).length != 0)=false:=by simpa using h
  have H:=hid h
  clear h
  go_enter Tryz.func287,Tryz.ntmps287
  go_wp2_with (first|(go_at_call 291;refine(Zmo _ _).mono ?_;rintro e w' ⟨rfl,rfl⟩)|(go_at_call 289;refine(Zjh _ _ _).mono ?_;rintro e w' ⟨rfl,rfl⟩)|(go_at_call 141;refine(Zm0 _ _ _).mono ?_;rintro e w' ⟨rfl,rfl⟩))
  go_ret
  refine⟨Za7 ?_,rfl⟩
  unfold M.Yaa
  rw[if_pos H.out]
 ·have h':(M.Zdu (M.strip a.data.toList).length (M.strip b.data.toList).length != 0)=true:=by simpa using h
  have H:=hid h
  clear h
  go_enter Tryz.func287,Tryz.ntmps287
  go_wp2_with (first|(go_at_call 291;refine(Zmo _ _).mono ?_;rintro e w' ⟨rfl,rfl⟩)|(go_at_call 289;refine(Zjh _ _ _).mono ?_;rintro e w' ⟨rfl,rfl⟩)|(go_at_call 141;refine(Zm0 _ _ _).mono ?_;rintro e w' ⟨rfl,rfl⟩))
  go_ret
  refine⟨Za7 ?_,rfl⟩
  unfold M.Yaa
  rw[if_neg H.out]
def noB(s:ByteArray):Nat:=M.lead M.Zih s.data.toList
def diB(s:ByteArray):Nat:=M.lead M.isD s.data.toList
def woB(a b:ByteArray):Int:=M.Zxj a.data.toList b.data.toList
def nuB(a b:ByteArray):Int:=M.Yaa a.data.toList b.data.toList
theorem Zzl(x:ByteArray):noB x<=x.size:=by have:=M.Zp0 M.Zih x.data.toList;unfold noB;simpa using this
theorem Zzn(x:ByteArray):diB x<=x.size:=by have:=M.Zp0 M.isD x.data.toList;unfold diB;simpa using this
theorem Zx5(s:ByteArray)(w:World)(hs:s.size<=maxLen):
 Calls Tryz.prog 252 #[.string s,.func (.func 285) #[] #[]] w fun e w'=>e=.returned (.int .i64 (noB s))/\w'=w:=Z2z s w hs
theorem Z4x(s:ByteArray)(w:World)(hs:s.size<=maxLen):
 Calls Tryz.prog 252 #[.string s,.func (.func 211) #[] #[]] w fun e w'=>e=.returned (.int .i64 (diB s))/\w'=w:=Z6c s w hs
theorem Ycc(a b:ByteArray)(w:World)(ha:a.size<=maxLen)(hb:b.size<=maxLen):
 Calls Tryz.prog 286 #[.string a,.string b] w fun e w'=>e=.returned (.int .i64 (woB a b))/\w'=w:=Z41 a b w ha hb
theorem Zvj(a b:ByteArray)(w:World):
 Calls Tryz.prog 287 #[.string a,.string b] w fun e w'=>e=.returned (.int .i64 (nuB a b))/\w'=w:=Zys a b w
theorem Zoy(x:ByteArray)(i p:Nat):((x.extract i x.size).extract p (x.size-i)).data.toList=(x.data.toList.drop i).drop p:=by
 rw[Lib.extract_data,Zfc,List.take_of_length_le]
 simp;omega
theorem Zjq(x:ByteArray)(i p:Nat):((x.extract i x.size).extract 0 p).data.toList=(x.data.toList.drop i).take p:=by
 rw[Zc2,Zfc]
theorem Zh0(x:ByteArray)(i:Nat):diB (x.extract i x.size)=M.lead M.isD (x.data.toList.drop i):=by unfold diB;rw[Zfc]
theorem Zzv(x y:ByteArray)(h:woB (x.extract 0 (noB x)) (y.extract 0 (noB y))=0)
 (k:nuB ((x.extract (noB x) x.size).extract 0 (diB (x.extract (noB x) x.size))) ((y.extract (noB y) y.size).extract 0 (diB (y.extract (noB y) y.size)))=0):
 M.Zsu x.data.toList y.data.toList=M.Zsu ((x.extract (noB x) x.size).extract (diB (x.extract (noB x) x.size)) (x.size-noB x)).data.toList ((y.extract (noB y) y.size).extract (diB (y.extract (noB y) y.size)) (y.size-noB y)).data.toList:=by
 unfold woB at h
 unfold nuB at k
 rw[Zc2,Zc2] at h
 rw[Zjq,Zjq,Zh0,Zh0] at k
 rw[Zoy,Zoy,Zh0,Zh0,M.Zjf _ _ _ _ (rfl:noB x = _) (rfl:noB y = _),if_pos h,if_pos k]
theorem Zug(x y:ByteArray)(h:woB (x.extract 0 (noB x)) (y.extract 0 (noB y))=0)
 (k:¬ nuB ((x.extract (noB x) x.size).extract 0 (diB (x.extract (noB x) x.size))) ((y.extract (noB y) y.size).extract 0 (diB (y.extract (noB y) y.size)))=0):
 M.Zsu x.data.toList y.data.toList=nuB ((x.extract (noB x) x.size).extract 0 (diB (x.extract (noB x) x.size))) ((y.extract (noB y) y.size).extract 0 (diB (y.extract (noB y) y.size))):=by
 unfold woB at h
 unfold nuB at k ⊢
 rw[Zc2,Zc2] at h
 rw[Zjq,Zjq,Zh0,Zh0] at k ⊢
 rw[M.Zjf _ _ _ _ (rfl:noB x = _) (rfl:noB y = _),if_pos h,if_neg k]
theorem Z9w(x:ByteArray)(h:¬ x.toList.isEmpty=true):0<noB x+diB (x.extract (noB x) x.size):=by
 rw[Zh0]
 rw[Lib.toList_data,List.isEmpty_iff] at h
 have:=M.Zy6 h
 show 0<M.lead M.Zih x.data.toList+M.lead M.isD (x.data.toList.drop (M.lead M.Zih x.data.toList))
 omega
theorem Z95(x y:ByteArray)(h:¬ (x.toList.isEmpty=true/\y.toList.isEmpty=true)):0<noB x+diB (x.extract (noB x) x.size)+(noB y+diB (y.extract (noB y) y.size)):=by
 by_cases hx:x.toList.isEmpty=true
 ·have:=Z9w y (fun hy=>h ⟨hx,hy⟩);omega
 ·have:=Z9w x hx;omega
theorem Zu7(a b:ByteArray)(w:World)(ha:a.size<=maxLen)(hb:b.size<=maxLen):
 Calls Tryz.prog 277 #[.string a,.string b] w fun e w'=>e=.returned (.int .i64 (M.Zsu a.data.toList b.data.toList))/\∃ n,w'=w.drewN n:=by
 unfold maxLen at ha hb
 go_enter Tryz.func277,Tryz.ntmps277
 go_wp2
 go_loopw [0,1,5,6,7,8] (fun u v _ _ _ _ wr=>∃ (x y:ByteArray) (n:Nat),u=.string x/\v=.string y/\wr=w.drewN n/\x.size<=a.size/\y.size<=b.size/\M.Zsu x.data.toList y.data.toList=M.Zsu a.data.toList b.data.toList) (fun u v _ _ _ _ _=>lenOf u+lenOf v)
 case atStart=>exact⟨a,b,0,rfl,rfl,rfl,Nat.le_refl _,Nat.le_refl _,rfl⟩
 case round=>
  obtain⟨x,y,n,rfl,rfl,rfl,hx,hy,hv⟩:=hrel
  have HV:=hid hv
  clear hv
  have hi:=Zzl x
  have hj:=Zzl y
  by_cases he:x.toList.isEmpty=true/\y.toList.isEmpty=true
  ·obtain⟨hxe,hye⟩:=he
   go_wp2
   go_ret
   exact⟨Za7 (by rw[<-HV.out];rw[Lib.toList_data,List.isEmpty_iff] at hxe hye;rw[hxe,hye];simp[M.Zsu,M.Z5z,M.Zf0]),n,rfl⟩
  ·have HE:Hid (¬ (x.toList.isEmpty=true/\y.toList.isEmpty=true)):=he
   have hor:x.toList.isEmpty=false\/(x.toList.isEmpty=true/\y.toList.isEmpty=false):=by
    by_cases h1:x.toList.isEmpty=true
    ·right;exact⟨h1,by by_cases h2:y.toList.isEmpty=true;exact absurd ⟨h1,h2⟩ he;simpa using h2⟩
    ·left;simpa using h1
   clear he
   have h1:(x.extract 0 (noB x)).size<=maxLen:=by have:=ext_size x 0 (noB x);unfold maxLen;omega
   have h2:(y.extract 0 (noB y)).size<=maxLen:=by have:=ext_size y 0 (noB y);unfold maxLen;omega
   have cW:=fun wx=>Ycc _ _ wx h1 h2
   clear h1 h2
   by_cases hw:woB (x.extract 0 (noB x)) (y.extract 0 (noB y))=0
   ·have hw':(woB (x.extract 0 (noB x)) (y.extract 0 (noB y)) != 0)=false:=by simpa using hw
    have HC:=hid hw
    clear hw
    have hp:diB (x.extract (noB x) x.size)<=x.size-noB x:=by have:=Zzn (x.extract (noB x) x.size);simpa using this
    have hq:diB (y.extract (noB y) y.size)<=y.size-noB y:=by have:=Zzn (y.extract (noB y) y.size);simpa using this
    by_cases hn:nuB ((x.extract (noB x) x.size).extract 0 (diB (x.extract (noB x) x.size))) ((y.extract (noB y) y.size).extract 0 (diB (y.extract (noB y) y.size)))=0
    ·have hn':(nuB ((x.extract (noB x) x.size).extract 0 (diB (x.extract (noB x) x.size))) ((y.extract (noB y) y.size).extract 0 (diB (y.extract (noB y) y.size))) != 0)=false:=by simpa using hn
     have HN:=hid hn
     clear hn
     rcases hor with hxe|⟨hxe,hye⟩
     all_goals
      go_wp2_with (go_at_call 252;refine(Zx5 _ _ (by unfold maxLen;omega)).mono ?_;rintro e w' ⟨rfl,rfl⟩)
      go_quiet ((go_at_call 286;go_must (exact Zdi (cW _))))
      go_wp2
      go_quiet (fail)
      go_wp2_with (go_at_call 252;refine(Z4x _ _ (by unfold maxLen;simp;omega)).mono ?_;rintro e w' ⟨rfl,rfl⟩)
      go_quiet ((go_at_call 287;go_must (exact Zdi (Zvj _ _ _))))
      go_wp2
      go_quiet (fail)
      go_wp2
      go_roundw
      case rel=>
       refine⟨_,_,_,rfl,rfl,Zlu _ _ _,?_,?_,?_⟩
       ·have:=ext_size (x.extract (noB x) x.size) (diB (x.extract (noB x) x.size)) (x.size-noB x);have:=ext_size x (noB x) x.size;omega
       ·have:=ext_size (y.extract (noB y) y.size) (diB (y.extract (noB y) y.size)) (y.size-noB y);have:=ext_size y (noB y) y.size;omega
       ·rw[<-HV.out,Zzv x y HC.out HN.out]
      case measure=>
       have:=Z95 x y HE.out
       simp[lenOf]
       omega
    ·have hn':(nuB ((x.extract (noB x) x.size).extract 0 (diB (x.extract (noB x) x.size))) ((y.extract (noB y) y.size).extract 0 (diB (y.extract (noB y) y.size))) != 0)=true:=by simpa using hn
     have HN:=hid hn
     clear hn
     rcases hor with hxe|⟨hxe,hye⟩
     all_goals
      go_wp2_with (go_at_call 252;refine(Zx5 _ _ (by unfold maxLen;omega)).mono ?_;rintro e w' ⟨rfl,rfl⟩)
      go_quiet ((go_at_call 286;go_must (exact Zdi (cW _))))
      go_wp2
      go_quiet (fail)
      go_wp2_with (go_at_call 252;refine(Z4x _ _ (by unfold maxLen;simp;omega)).mono ?_;rintro e w' ⟨rfl,rfl⟩)
      go_quiet ((go_at_call 287;go_must (exact Zdi (Zvj _ _ _))))
      go_wp2
      go_ret
      refine⟨Za7 ?_,_,rfl⟩
      rw[<-HV.out,Zug x y HC.out HN.out]
   ·have hw':(woB (x.extract 0 (noB x)) (y.extract 0 (noB y)) != 0)=true:=by simpa using hw
    have HC:=hid hw
    clear hw
    rcases hor with hxe|⟨hxe,hye⟩
    all_goals
     go_wp2_with (go_at_call 252;refine(Zx5 _ _ (by unfold maxLen;omega)).mono ?_;rintro e w' ⟨rfl,rfl⟩)
     go_quiet ((go_at_call 286;go_must (exact Zdi (cW _))))
     go_wp2
     go_ret
     refine⟨Za7 ?_,_,rfl⟩
     have h:=HC.out
     rw[<-HV.out,M.Zjf _ _ _ _ rfl rfl,<-Zc2,<-Zc2]
     exact(if_neg h).symm
def Ztk(a b:ByteArray):Int:=M.Zsu a.data.toList b.data.toList
end Go.Proofs.YtgnfknjopafngaaGreatDoor
