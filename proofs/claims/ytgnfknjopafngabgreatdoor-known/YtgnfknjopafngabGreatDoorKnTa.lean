import Derived.KernelRfl
import Derived.Test.YtgnfknjopafngabGreatDoorKnah
set_option maxRecDepth 100000
set_option maxHeartbeats 8000000
namespace Go.Proofs.YtgnfknjopafngabGreatDoor
namespace M
def lexN:List Int->Int
 | []=>0
 | y :: ys=>if cmpI 0 y=0 then lexN ys else cmpI 0 y
def lexK:List Int->List Int->Int
 | [],ys=>lexN ys
 | x :: xs,[]=>if cmpI x 0=0 then lexK xs [] else cmpI x 0
 | x :: xs,y :: ys=>if cmpI x y=0 then lexK xs ys else cmpI x y
theorem lexN_is:∀ b,lexC [] b=lexN b
 | []=>by rw[lexC,lexN]
 | y :: ys=>by rw[lexC,lexN,lexN_is ys]
theorem lexK_is1:∀ a b,lexC a b=lexK a b
 | [],b=>by rw[lexN_is,lexK]
 | x :: xs,[]=>by rw[lexC,lexK,lexK_is1 xs []]
 | x :: xs,y :: ys=>by rw[lexC,lexK,lexK_is1 xs ys]
def verK(a b:List UInt8):Int:=lexK (key a) (key b)
theorem verK_is:verC=verK:=by funext a b;unfold verC verK;rw[lexK_is1]
def fitsK(c:Ch)(p:Pk):Bool:=
 if c.name=p.name then
  (if c.sign=[60,60] then decide (verK p.ver c.ver<0)
  else if c.sign=[60,61] then decide (verK p.ver c.ver<=0)
  else if c.sign=[61] then decide (verK p.ver c.ver=0)
  else if c.sign=[62,61] then decide (0<=verK p.ver c.ver)
  else if c.sign=[62,62] then decide (0<verK p.ver c.ver)
  else true)
 else false
theorem fitsK_is:fitsS=fitsK:=by funext c p;unfold fitsS fitsK;rw[verK_is]
def any1K(g:List Ch)(l:List Pk):Bool:=g.any fun c=>l.any fun p=>fitsK c p
theorem any1K_is:any1S=any1K:=by funext g l;unfold any1S any1K;rw[fitsK_is]
def lackGK(l:List Pk)(nm:List UInt8)(n:List UInt8)(g:List Ch):List UInt8:=if any1K g l=true then n else firstS n nm
theorem lackGK_is:lackG=lackGK:=by funext l nm n g;unfold lackG lackGK;rw[any1K_is]
def lackPK(l:List Pk)(n:List UInt8)(p:Pk):List UInt8:=p.needs.foldl (lackGK l p.name) n
theorem lackPK_is:lackP=lackPK:=by funext l n p;unfold lackP lackPK;rw[lackGK_is]
def lackingK(l:List Pk):List UInt8:=l.foldl (lackPK l) []
theorem lackingK_is:lackingS=lackingK:=by funext l;unfold lackingS lackingK;rw[lackPK_is]
def barGK(l:List Pk)(i:Nat)(p:Pk)(n:List UInt8)(k:Nat):List UInt8:=match l[k]? with
 | none=>n
 | some q=>if any1K p.bars [q]=true/\k≠i then firstS n p.name else n
theorem barGK_is:barG=barGK:=by funext l i p n k;unfold barG barGK;rw[any1K_is];rfl
def barPK(l:List Pk)(n:List UInt8)(i:Nat):List UInt8:=match l[i]? with
 | none=>n
 | some p=>(List.range l.length).foldl (barGK l i p) n
theorem barPK_is:barP=barPK:=by funext l n i;unfold barP barPK;rw[barGK_is];rfl
def barringK(l:List Pk):List UInt8:=(List.range l.length).foldl (barPK l) []
theorem barringK_is:barringS=barringK:=by funext l;unfold barringS barringK;rw[barPK_is]
def waitsGK(p q:Pk)(there:List Pk)(g:List Ch):Bool:=!any1K g there && (!any1K g [p] && any1K g [q])
theorem waitsGK_is:waitsG=waitsGK:=by funext p q there g;unfold waitsG waitsGK;rw[any1K_is]
def waitsK(p q:Pk)(there:List Pk):Bool:=p.needs.any (waitsGK p q there)
theorem waitsK_is:waitsS=waitsK:=by funext p q there;unfold waitsS waitsK;rw[waitsGK_is]
def holdsK(l there:List Pk)(i:Nat)(p:Pk)(f:Bool)(k:Nat):Bool:=match l[k]? with
 | none=>f
 | some q=>if waitsK p q there=true/\k≠i then false else f
theorem holdsK_is:holdsS=holdsK:=by funext l there i p f k;unfold holdsS holdsK;rw[waitsK_is];rfl
def freeK(l there:List Pk)(i:Nat)(p:Pk):Bool:=(List.range l.length).foldl (holdsK l there i p) true
theorem freeK_is:freeS=freeK:=by funext l there i p;unfold freeS freeK;rw[holdsK_is]
def readyIK(l there:List Pk)(n:List UInt8)(i:Nat):List UInt8:=match l[i]? with
 | none=>n
 | some p=>if freeK l there i p=true then firstS n p.name else n
theorem readyIK_is:readyI=readyIK:=by funext l there n i;unfold readyI readyIK;rw[freeK_is];rfl
def readyK(l there:List Pk):List UInt8:=(List.range l.length).foldl (readyIK l there) []
theorem readyK_is:readyS=readyK:=by funext l there;unfold readyS readyK;rw[readyIK_is]
def orderK(there:List Pk):Nat->List Pk->List (List UInt8)->List (List UInt8) × List Pk
 | 0,l,out=>(out,l)
 | f+1,l,out=>if readyK l there=[] then (out,l) else match l.findIdx? (fun p=>p.name == readyK l there) with
  | none=>(out,l)
  | some k=>orderK there f (l.take k++l.drop (k+1)) (out++[readyK l there])
theorem orderK_is(there:List Pk):∀ n l out,orderS there n l out=orderK there n l out
 | 0,l,out=>by rw[orderS,orderK]
 | n+1,l,out=>by
  rw[orderS,orderK,readyK_is]
  split
  ·rfl
  ·cases l.findIdx? (fun p=>p.name == readyK l there) with
   | none=>rfl
   | some k=>exact orderK_is there n _ _
def checkedK(there fresh all:List Pk):Sum Fa (List Pk × List (List UInt8)):=
 if lackingK all≠[] then .inl ⟨4,0,0,lackingK all⟩
 else if barringK all≠[] then .inl ⟨5,0,0,barringK all⟩
 else if clashingS all≠[] then .inl ⟨6,0,0,clashingS all⟩
 else if firstOf (orderK there fresh.length fresh []).2≠[] then .inl ⟨7,0,0,firstOf (orderK there fresh.length fresh []).2⟩
 else .inr (all,(orderK there fresh.length fresh []).1)
theorem checkedK_is:checkedS=checkedK:=by funext there fresh all;unfold checkedS checkedK;rw[lackingK_is,barringK_is,orderK_is]
def plannedK(there:List Pk)(texts:List (List UInt8)):Sum Fa (List Pk × List (List UInt8)):=
 match readAllS texts 0 [] with
 | .inl f=>.inl f
 | .inr fresh=>match addAllS fresh 0 there with
  | .inl f=>.inl f
  | .inr all=>checkedK there fresh all
theorem plannedK_is(there:List Pk)(texts:List (List UInt8)):plannedS there texts=plannedK there texts:=by
 unfold plannedS plannedK
 rw[checkedK_is]
 rfl
end M
structure VRow where
 a:ByteArray
 b:ByteArray
 o:Int
structure FRow where
 text:ByteArray
 one:ByteArray
 line:Int
structure PRow where
 texts:List ByteArray
 order:List ByteArray
 k:Int
 w:Int
 l:Int
 n:ByteArray
def vRows:List VRow:=[
 ⟨⟨#[49]⟩,⟨#[49]⟩,0⟩,
 ⟨⟨#[49,46,57]⟩,⟨#[49,46,49,48]⟩,-1⟩,
 ⟨⟨#[49,46,48]⟩,⟨#[49]⟩,1⟩,
 ⟨⟨#[49,46,48]⟩,⟨#[49,46,48,48]⟩,0⟩,
 ⟨⟨#[50,126,114,99,49]⟩,⟨#[50]⟩,-1⟩,
 ⟨⟨#[50,126]⟩,⟨#[50,126,126]⟩,1⟩,
 ⟨⟨#[50,126,126]⟩,⟨#[50,126,114,99,49]⟩,-1⟩,
 ⟨⟨#[49,97]⟩,⟨#[49]⟩,1⟩,
 ⟨⟨#[49,97]⟩,⟨#[49,43]⟩,-1⟩,
 ⟨⟨#[49,97]⟩,⟨#[49,65]⟩,1⟩,
 ⟨⟨#[49,46]⟩,⟨#[49,45]⟩,1⟩,
 ⟨⟨#[49,48]⟩,⟨#[57]⟩,1⟩,
 ⟨⟨#[48,48,55]⟩,⟨#[55]⟩,0⟩,
 ⟨⟨#[49,46,48,45,49]⟩,⟨#[49,46,48]⟩,1⟩,
 ⟨⟨#[49,46,48,126]⟩,⟨#[49,46,48,45,49]⟩,-1⟩,
 ⟨⟨#[49,46,50,46,51]⟩,⟨#[49,46,50]⟩,1⟩,
 ⟨⟨#[49,98,49]⟩,⟨#[49,98,49,48]⟩,-1⟩,
 ⟨⟨#[57,57,57,57,57,57,57,57,57,57,57,57,57,57,57,57,57,57,57,57]⟩,⟨#[49,48,48,48,48,48,48,48,48,48,48,48,48,48,48,48,48,48,48,48,48]⟩,-1⟩,
 ⟨⟨#[]⟩,⟨#[48]⟩,0⟩,
 ⟨⟨#[]⟩,⟨#[126]⟩,1⟩,
 ⟨⟨#[97]⟩,⟨#[]⟩,1⟩]
def fRows:List FRow:=[
 ⟨⟨#[112,97,99,107,97,103,101,32,97,32,49]⟩,⟨#[112,97,99,107,97,103,101,32,97,32,49]⟩,-1⟩,
 ⟨⟨#[112,97,99,107,97,103,101,32,97,32,49,10]⟩,⟨#[112,97,99,107,97,103,101,32,97,32,49]⟩,-1⟩,
 ⟨⟨#[112,97,99,107,97,103,101,32,108,105,98,45,120,32,50,126,114,99,49,10,110,101,101,100,115,32,97,32,40,62,61,32,49,46,48,41,32,124,32,98,44,32,99,10,98,97,114,115,32,100,32,40,60,60,32,50,41,44,32,101,10,102,105,108,101,32,122,47,98,61,116,119,111,32,119,111,114,100,115,10,102,105,108,101,32,98,105,110,47,120,61]⟩,⟨#[112,97,99,107,97,103,101,32,108,105,98,45,120,32,50,126,114,99,49,10,110,101,101,100,115,32,97,32,40,62,61,32,49,46,48,41,32,124,32,98,44,32,99,10,98,97,114,115,32,100,32,40,60,60,32,50,41,44,32,101,10,102,105,108,101,32,98,105,110,47,120,61,10,102,105,108,101,32,122,47,98,61,116,119,111,32,119,111,114,100,115]⟩,-1⟩,
 ⟨⟨#[112,97,99,107,97,103,101,32,97,32,49,10,102,105,108,101,32,120,61,97,61,98]⟩,⟨#[112,97,99,107,97,103,101,32,97,32,49,10,102,105,108,101,32,120,61,97,61,98]⟩,-1⟩,
 ⟨⟨#[]⟩,⟨#[]⟩,1⟩,
 ⟨⟨#[112,97,99,107,97,103,101,32,97]⟩,⟨#[]⟩,1⟩,
 ⟨⟨#[112,97,99,107,97,103,101,32,65,32,49]⟩,⟨#[]⟩,1⟩,
 ⟨⟨#[112,97,99,107,97,103,101,32,45,97,32,49]⟩,⟨#[]⟩,1⟩,
 ⟨⟨#[112,97,99,107,97,103,101,32,97,32,118,49]⟩,⟨#[]⟩,1⟩,
 ⟨⟨#[112,97,99,107,97,103,101,32,97,32,32,49]⟩,⟨#[]⟩,1⟩,
 ⟨⟨#[112,97,99,107,97,103,101,32,97,32,49,32]⟩,⟨#[]⟩,1⟩,
 ⟨⟨#[112,97,99,107,97,103,101,32,116,119,101,108,118,101,45,99,104,97,114,115,32,49,50,51,52,53,54,55,56,57,48,49,50,51,52,53,54]⟩,⟨#[112,97,99,107,97,103,101,32,116,119,101,108,118,101,45,99,104,97,114,115,32,49,50,51,52,53,54,55,56,57,48,49,50,51,52,53,54]⟩,-1⟩,
 ⟨⟨#[112,97,99,107,97,103,101,32,116,104,105,114,116,101,101,110,99,104,97,114,115,32,49]⟩,⟨#[]⟩,1⟩,
 ⟨⟨#[112,97,99,107,97,103,101,32,97,32,49,50,51,52,53,54,55,56,57,48,49,50,51,52,53,54,55]⟩,⟨#[]⟩,1⟩,
 ⟨⟨#[112,97,99,107,97,103,101,32,97,32,49,10,10]⟩,⟨#[]⟩,2⟩,
 ⟨⟨#[112,97,99,107,97,103,101,32,97,32,49,10,110,101,101,100,115]⟩,⟨#[]⟩,2⟩,
 ⟨⟨#[112,97,99,107,97,103,101,32,97,32,49,10,110,101,101,100,115,32,98,44,99]⟩,⟨#[]⟩,2⟩,
 ⟨⟨#[112,97,99,107,97,103,101,32,97,32,49,10,110,101,101,100,115,32,98,32,124,32,99,32,124,32,100,44,32,101,44,32,102,32,40,61,32,49,41]⟩,⟨#[112,97,99,107,97,103,101,32,97,32,49,10,110,101,101,100,115,32,98,32,124,32,99,32,124,32,100,44,32,101,44,32,102,32,40,61,32,49,41]⟩,-1⟩,
 ⟨⟨#[112,97,99,107,97,103,101,32,97,32,49,10,110,101,101,100,115,32,98,32,124,32,99,32,124,32,100,32,124,32,101]⟩,⟨#[]⟩,2⟩,
 ⟨⟨#[112,97,99,107,97,103,101,32,97,32,49,10,110,101,101,100,115,32,98,44,32,99,44,32,100,44,32,101]⟩,⟨#[]⟩,2⟩,
 ⟨⟨#[112,97,99,107,97,103,101,32,97,32,49,10,110,101,101,100,115,32,98,32,40,49,41]⟩,⟨#[]⟩,2⟩,
 ⟨⟨#[112,97,99,107,97,103,101,32,97,32,49,10,110,101,101,100,115,32,98,32,40,62,32,49,41]⟩,⟨#[]⟩,2⟩,
 ⟨⟨#[112,97,99,107,97,103,101,32,97,32,49,10,110,101,101,100,115,32,98,32,40,61,32,49]⟩,⟨#[]⟩,2⟩,
 ⟨⟨#[112,97,99,107,97,103,101,32,97,32,49,10,110,101,101,100,115,32,98,40,61,32,49,41]⟩,⟨#[]⟩,2⟩,
 ⟨⟨#[112,97,99,107,97,103,101,32,97,32,49,10,98,97,114,115,32,98,32,124,32,99]⟩,⟨#[]⟩,2⟩,
 ⟨⟨#[112,97,99,107,97,103,101,32,97,32,49,10,98,97,114,115,32,98,10,110,101,101,100,115,32,99]⟩,⟨#[]⟩,3⟩,
 ⟨⟨#[112,97,99,107,97,103,101,32,97,32,49,10,110,101,101,100,115,32,98,10,110,101,101,100,115,32,99]⟩,⟨#[]⟩,3⟩,
 ⟨⟨#[112,97,99,107,97,103,101,32,97,32,49,10,102,105,108,101,32,120,61,49,10,98,97,114,115,32,98]⟩,⟨#[]⟩,3⟩,
 ⟨⟨#[112,97,99,107,97,103,101,32,97,32,49,10,102,105,108,101,32,120]⟩,⟨#[]⟩,2⟩,
 ⟨⟨#[112,97,99,107,97,103,101,32,97,32,49,10,102,105,108,101,32,61,49]⟩,⟨#[]⟩,2⟩,
 ⟨⟨#[112,97,99,107,97,103,101,32,97,32,49,10,102,105,108,101,32,47,120,61,49]⟩,⟨#[]⟩,2⟩,
 ⟨⟨#[112,97,99,107,97,103,101,32,97,32,49,10,102,105,108,101,32,120,47,46,46,47,121,61,49]⟩,⟨#[]⟩,2⟩,
 ⟨⟨#[112,97,99,107,97,103,101,32,97,32,49,10,102,105,108,101,32,120,47,121,47,122,61,49]⟩,⟨#[112,97,99,107,97,103,101,32,97,32,49,10,102,105,108,101,32,120,47,121,47,122,61,49]⟩,-1⟩,
 ⟨⟨#[112,97,99,107,97,103,101,32,97,32,49,10,102,105,108,101,32,119,47,120,47,121,47,122,61,49]⟩,⟨#[]⟩,2⟩,
 ⟨⟨#[112,97,99,107,97,103,101,32,97,32,49,10,102,105,108,101,32,110,105,110,101,99,104,97,114,115,61,49]⟩,⟨#[]⟩,2⟩,
 ⟨⟨#[112,97,99,107,97,103,101,32,97,32,49,10,102,105,108,101,32,120,61,49,10,102,105,108,101,32,120,61,50]⟩,⟨#[]⟩,3⟩,
 ⟨⟨#[112,97,99,107,97,103,101,32,97,32,49,10,102,105,108,101,32,120,61,49,10,102,105,108,101,32,120,47,121,61,50]⟩,⟨#[]⟩,3⟩,
 ⟨⟨#[112,97,99,107,97,103,101,32,97,32,49,10,102,105,108,101,32,120,47,121,61,49,10,102,105,108,101,32,120,61,50]⟩,⟨#[]⟩,3⟩,
 ⟨⟨#[112,97,99,107,97,103,101,32,97,32,49,10,102,105,108,101,32,97,61,49,10,102,105,108,101,32,98,61,49,10,102,105,108,101,32,99,61,49,10,102,105,108,101,32,100,61,49,10,102,105,108,101,32,101,61,49]⟩,⟨#[]⟩,6⟩,
 ⟨⟨#[112,97,99,107,97,103,101,32,97,32,49,10,102,105,108,101,32,120,61,49,50,51,52,53,54,55,56,57,48,49,50,51,52,53,54,55,56,57,48,49,50,51,52,53]⟩,⟨#[]⟩,2⟩,
 ⟨⟨#[112,97,99,107,97,103,101,32,97,32,49,10,102,111,108,100,101,114,32,120]⟩,⟨#[]⟩,2⟩,
 ⟨⟨#[112,97,99,107,97,103,101,32,97,32,49,10,112,97,99,107,97,103,101,32,98,32,49]⟩,⟨#[]⟩,2⟩]
def pRows:List PRow:=[
 ⟨[⟨#[112,97,99,107,97,103,101,32,98,32,49,10,110,101,101,100,115,32,97]⟩,⟨#[112,97,99,107,97,103,101,32,97,32,49]⟩],[⟨#[97]⟩,⟨#[98]⟩],0,0,0,⟨#[]⟩⟩,
 ⟨[⟨#[112,97,99,107,97,103,101,32,97,32,49]⟩,⟨#[112,97,99,107,97,103,101,32,99,32,49]⟩,⟨#[112,97,99,107,97,103,101,32,98,32,49]⟩],[⟨#[97]⟩,⟨#[98]⟩,⟨#[99]⟩],0,0,0,⟨#[]⟩⟩,
 ⟨[⟨#[112,97,99,107,97,103,101,32,97,32,49,10,110,101,101,100,115,32,98]⟩,⟨#[112,97,99,107,97,103,101,32,98,32,49,10,110,101,101,100,115,32,99]⟩,⟨#[112,97,99,107,97,103,101,32,99,32,49]⟩],[⟨#[99]⟩,⟨#[98]⟩,⟨#[97]⟩],0,0,0,⟨#[]⟩⟩,
 ⟨[⟨#[112,97,99,107,97,103,101,32,97,32,49,10,110,101,101,100,115,32,97]⟩],[⟨#[97]⟩],0,0,0,⟨#[]⟩⟩,
 ⟨[⟨#[112,97,99,107,97,103,101,32,97,32,49,10,110,101,101,100,115,32,98,32,124,32,99]⟩,⟨#[112,97,99,107,97,103,101,32,98,32,49,10,110,101,101,100,115,32,99]⟩,⟨#[112,97,99,107,97,103,101,32,99,32,49]⟩],[⟨#[99]⟩,⟨#[98]⟩,⟨#[97]⟩],0,0,0,⟨#[]⟩⟩,
 ⟨[],[],0,0,0,⟨#[]⟩⟩,
 ⟨[⟨#[112,97,99,107,97,103,101,32,97,32,49,10,110,101,101,100,115,32,98]⟩],[],4,0,0,⟨#[97]⟩⟩,
 ⟨[⟨#[112,97,99,107,97,103,101,32,97,32,49,10,110,101,101,100,115,32,98,32,40,62,61,32,50,41]⟩,⟨#[112,97,99,107,97,103,101,32,98,32,49]⟩],[],4,0,0,⟨#[97]⟩⟩,
 ⟨[⟨#[112,97,99,107,97,103,101,32,97,32,49,10,110,101,101,100,115,32,98,32,40,62,61,32,50,41,32,124,32,98,32,40,61,32,49,41]⟩,⟨#[112,97,99,107,97,103,101,32,98,32,49]⟩],[⟨#[98]⟩,⟨#[97]⟩],0,0,0,⟨#[]⟩⟩,
 ⟨[⟨#[112,97,99,107,97,103,101,32,99,32,49,10,110,101,101,100,115,32,120]⟩,⟨#[112,97,99,107,97,103,101,32,98,32,49,10,110,101,101,100,115,32,120]⟩],[],4,0,0,⟨#[98]⟩⟩,
 ⟨[⟨#[112,97,99,107,97,103,101,32,97,32,49,10,98,97,114,115,32,98]⟩,⟨#[112,97,99,107,97,103,101,32,98,32,49]⟩],[],5,0,0,⟨#[97]⟩⟩,
 ⟨[⟨#[112,97,99,107,97,103,101,32,97,32,49,10,98,97,114,115,32,98,32,40,60,60,32,49,41]⟩,⟨#[112,97,99,107,97,103,101,32,98,32,49]⟩],[⟨#[97]⟩,⟨#[98]⟩],0,0,0,⟨#[]⟩⟩,
 ⟨[⟨#[112,97,99,107,97,103,101,32,97,32,49,10,98,97,114,115,32,97]⟩],[⟨#[97]⟩],0,0,0,⟨#[]⟩⟩,
 ⟨[⟨#[112,97,99,107,97,103,101,32,97,32,49,10,102,105,108,101,32,120,61,49]⟩,⟨#[112,97,99,107,97,103,101,32,98,32,49,10,102,105,108,101,32,120,61,49]⟩],[],6,0,0,⟨#[120]⟩⟩,
 ⟨[⟨#[112,97,99,107,97,103,101,32,97,32,49,10,102,105,108,101,32,120,47,121,61,49]⟩,⟨#[112,97,99,107,97,103,101,32,98,32,49,10,102,105,108,101,32,120,61,49]⟩],[],6,0,0,⟨#[120]⟩⟩,
 ⟨[⟨#[112,97,99,107,97,103,101,32,97,32,49,10,102,105,108,101,32,120,47,121,61,49]⟩,⟨#[112,97,99,107,97,103,101,32,98,32,49,10,102,105,108,101,32,120,47,122,61,49]⟩],[⟨#[97]⟩,⟨#[98]⟩],0,0,0,⟨#[]⟩⟩,
 ⟨[⟨#[112,97,99,107,97,103,101,32,97,32,49,10,110,101,101,100,115,32,98]⟩,⟨#[112,97,99,107,97,103,101,32,98,32,49,10,110,101,101,100,115,32,97]⟩],[],7,0,0,⟨#[97]⟩⟩,
 ⟨[⟨#[112,97,99,107,97,103,101,32,99,32,49,10,110,101,101,100,115,32,98]⟩,⟨#[112,97,99,107,97,103,101,32,98,32,49,10,110,101,101,100,115,32,99]⟩,⟨#[112,97,99,107,97,103,101,32,97,32,49,10,110,101,101,100,115,32,98]⟩],[],7,0,0,⟨#[97]⟩⟩,
 ⟨[⟨#[112,97,99,107,97,103,101,32,97,32,49]⟩,⟨#[112,97,99,107,97,103,101,32,97,32,50]⟩],[],2,1,0,⟨#[97]⟩⟩,
 ⟨[⟨#[112,97,99,107,97,103,101,32,97,32,49]⟩,⟨#[112,97,99,107,97,103,101]⟩,⟨#[112,97,99,107,97,103,101,32,98]⟩],[],1,1,1,⟨#[]⟩⟩,
 ⟨[⟨#[112,97,99,107,97,103,101,32,97,32,49,10,110,101,101,100,115,32,122]⟩,⟨#[120]⟩],[],1,1,1,⟨#[]⟩⟩,
 ⟨[⟨#[112,97,99,107,97,103,101,32,97,32,49]⟩,⟨#[112,97,99,107,97,103,101,32,97,32,49,10,110,101,101,100,115,32,122]⟩],[],2,1,0,⟨#[97]⟩⟩,
 ⟨[⟨#[112,97,99,107,97,103,101,32,97,32,49,10,110,101,101,100,115,32,122,10,98,97,114,115,32,98]⟩,⟨#[112,97,99,107,97,103,101,32,98,32,49]⟩],[],4,0,0,⟨#[97]⟩⟩,
 ⟨[⟨#[112,97,99,107,97,103,101,32,97,32,49,10,98,97,114,115,32,98,10,102,105,108,101,32,120,61,49]⟩,⟨#[112,97,99,107,97,103,101,32,98,32,49,10,102,105,108,101,32,120,61,49]⟩],[],5,0,0,⟨#[97]⟩⟩]
def vGood(r:VRow):Bool:=M.verK r.a.data.toList r.b.data.toList == r.o && decide (r.a.size<=1000) && decide (r.b.size<=1000)
def fGood(r:FRow):Bool:=decide (r.text.size<=1000) && match M.readS r.text.data.toList with
 | .inl n=>r.line == (n:Int) && r.one.data.toList == []
 | .inr p=>r.line == -1 && M.printS p == r.one.data.toList
def pGood(r:PRow):Bool:=decide (r.texts.length<=100) && decide (r.order.length<=100) && r.texts.all (fun t=>decide (t.size<=1000)) && match M.plannedK [] (r.texts.map fun t=>t.data.toList) with
 | .inl f=>(f.kind:Int) == r.k && (f.which:Int) == r.w && (f.line:Int) == r.l && f.name == r.n.data.toList && r.order.length == 0
 | .inr (_,names)=>r.k == 0 && r.w == 0 && r.l == 0 && r.n.data.toList == [] && names == r.order.map fun t=>t.data.toList
theorem vAll:vRows.all vGood=true:=by kernel_rfl
theorem fAll:fRows.all fGood=true:=by kernel_rfl
theorem pAll:pRows.all pGood=true:=by kernel_rfl
theorem v_at{k:Nat}(hk:k<vRows.length):M.verC (vRows[k]).a.data.toList (vRows[k]).b.data.toList=(vRows[k]).o/\(vRows[k]).a.size<=1000/\(vRows[k]).b.size<=1000:=by
 have:=List.all_eq_true.1 vAll _ (List.getElem_mem hk)
 unfold vGood at this
 rw[M.verK_is]
 simpa [and_assoc] using this
theorem f_at{k:Nat}(hk:k<fRows.length):(fRows[k]).text.size<=1000/\((∃ n:Nat,M.readS (fRows[k]).text.data.toList=.inl n/\(fRows[k]).line=n/\(fRows[k]).one.data.toList=[])\/∃ p,M.readS (fRows[k]).text.data.toList=.inr p/\(fRows[k]).line = -1/\M.printS p=(fRows[k]).one.data.toList):=by
 have:=List.all_eq_true.1 fAll _ (List.getElem_mem hk)
 unfold fGood at this
 rw[Bool.and_eq_true] at this
 obtain⟨h1,h2⟩:=this
 refine⟨by simpa using h1,?_⟩
 split at h2
 ·rename_i n e
  rw[Bool.and_eq_true] at h2
  exact .inl ⟨n,e,by simpa using h2.1,by simpa using h2.2⟩
 ·rename_i p e
  rw[Bool.and_eq_true] at h2
  exact .inr ⟨p,e,by simpa using h2.1,by simpa using h2.2⟩
theorem p_at{k:Nat}(hk:k<pRows.length):(pRows[k]).texts.length<=100/\(pRows[k]).order.length<=100/\(∀ t∈(pRows[k]).texts,t.size<=1000)/\((∃ f:M.Fa,M.plannedS [] ((pRows[k]).texts.map fun t=>t.data.toList)=.inl f/\(f.kind:Int)=(pRows[k]).k/\(f.which:Int)=(pRows[k]).w/\(f.line:Int)=(pRows[k]).l/\f.name=(pRows[k]).n.data.toList/\(pRows[k]).order=[])\/∃ all names,M.plannedS [] ((pRows[k]).texts.map fun t=>t.data.toList)=.inr (all,names)/\(pRows[k]).k=0/\(pRows[k]).w=0/\(pRows[k]).l=0/\(pRows[k]).n.data.toList=[]/\names=(pRows[k]).order.map fun t=>t.data.toList):=by
 have:=List.all_eq_true.1 pAll _ (List.getElem_mem hk)
 unfold pGood at this
 rw[Bool.and_eq_true,Bool.and_eq_true,Bool.and_eq_true] at this
 obtain⟨⟨⟨h1,h2⟩,h3⟩,h4⟩:=this
 rw[M.plannedK_is]
 refine⟨by simpa using h1,by simpa using h2,by simpa using h3,?_⟩
 split at h4
 ·rename_i f e
  simp only[Bool.and_eq_true,beq_iff_eq,List.length_eq_zero_iff] at h4
  exact .inl ⟨f,e,h4.1.1.1.1,h4.1.1.1.2,h4.1.1.2,h4.1.2,h4.2⟩
 ·rename_i all names e
  simp only[Bool.and_eq_true,beq_iff_eq] at h4
  exact .inr ⟨all,names,e,h4.1.1.1.1,h4.1.1.1.2,h4.1.1.2,h4.1.2,h4.2⟩
theorem vLen:vRows.length=21:=rfl
theorem fLen:fRows.length=42:=rfl
theorem pLen:pRows.length=24:=rfl
end Go.Proofs.YtgnfknjopafngabGreatDoor
namespace Go.Proofs.YtgnfknjopafngabGreatDoor
open Go.RowKit
theorem tab_get{α β:Type}(f:α->List β)(n:Nat)(hf:∀ a,(f a).length=n):∀ (l:List α) (k:Nat) (hk:k<l.length) (j:Nat),j<n->(l.flatMap f)[k*n+j]? = (f l[k])[j]?
 | a :: l,0,_,j,hj=>by
  rw[List.flatMap_cons,Nat.zero_mul,Nat.zero_add,List.getElem?_append_left (by rw[hf];exact hj)]
  rfl
 | a :: l,k+1,hk,j,hj=>by
  rw[List.flatMap_cons,List.getElem?_append_right (by rw[hf,Nat.succ_mul];omega),hf,show (k+1)*n+j-n=k*n+j by rw[Nat.succ_mul];omega]
  exact tab_get f n hf l k (by simpa using hk) j hj
def vCells:List Value:=vRows.flatMap fun r=>[.string r.a,.string r.b,.int .i64 r.o]
def fCells:List Value:=fRows.flatMap fun r=>[.string r.text,.string r.one,.int .i64 r.line]
def VIn(w:World)(g:Nat):Prop:=∀ k (hk:k<vRows.length),w.cell? ⟨g,k*3,none⟩=some (.string (vRows[k]).a)/\w.cell? ⟨g,k*3+1,none⟩=some (.string (vRows[k]).b)/\w.cell? ⟨g,k*3+2,none⟩=some (.int .i64 (vRows[k]).o)
def FIn(w:World)(g:Nat):Prop:=∀ k (hk:k<fRows.length),w.cell? ⟨g,k*3,none⟩=some (.string (fRows[k]).text)/\w.cell? ⟨g,k*3+1,none⟩=some (.string (fRows[k]).one)/\w.cell? ⟨g,k*3+2,none⟩=some (.int .i64 (fRows[k]).line)
theorem VIn.below{w w':World}{g:Nat}(h:VIn w g)(hb:Below w.heap.size w w'):VIn w' g:=fun k hk=>by
 obtain⟨h1,h2,h3⟩:=h k hk
 exact⟨(hb.cell (p:=⟨g,_,none⟩) (World.block_lt_of_cell? _ _ h1)).trans h1,(hb.cell (p:=⟨g,_,none⟩) (World.block_lt_of_cell? _ _ h2)).trans h2,(hb.cell (p:=⟨g,_,none⟩) (World.block_lt_of_cell? _ _ h3)).trans h3⟩
theorem FIn.below{w w':World}{g:Nat}(h:FIn w g)(hb:Below w.heap.size w w'):FIn w' g:=fun k hk=>by
 obtain⟨h1,h2,h3⟩:=h k hk
 exact⟨(hb.cell (p:=⟨g,_,none⟩) (World.block_lt_of_cell? _ _ h1)).trans h1,(hb.cell (p:=⟨g,_,none⟩) (World.block_lt_of_cell? _ _ h2)).trans h2,(hb.cell (p:=⟨g,_,none⟩) (World.block_lt_of_cell? _ _ h3)).trans h3⟩
theorem vin_new(w:World)(t:TypeId):VIn (w.alloc (.cells vCells.toArray t)) w.heap.size:=fun k hk=>by
 have g:=fun j hj=>tab_get (fun r:VRow=>[Value.string r.a,.string r.b,.int .i64 r.o]) 3 (fun _=>rfl) vRows k hk j hj
 exact⟨new_at w vCells t _ _ (g 0 (by decide)),new_at w vCells t _ _ (g 1 (by decide)),new_at w vCells t _ _ (g 2 (by decide))⟩
theorem fin_new(w:World)(t:TypeId):FIn (w.alloc (.cells fCells.toArray t)) w.heap.size:=fun k hk=>by
 have g:=fun j hj=>tab_get (fun r:FRow=>[Value.string r.text,.string r.one,.int .i64 r.line]) 3 (fun _=>rfl) fRows k hk j hj
 exact⟨new_at w fCells t _ _ (g 0 (by decide)),new_at w fCells t _ _ (g 1 (by decide)),new_at w fCells t _ _ (g 2 (by decide))⟩
theorem versions_any(w:World):Calls Tryz.prog 5 #[] w fun e w'=>∃ g,e=.returned (.slice (some ⟨g,0,none⟩) 21 21)/\VIn w' g/\Below w.heap.size w w':=by
 have hV:Hid (VIn (w.alloc (.cells vCells.toArray 31)) w.heap.size):=vin_new w _
 have hB:Hid (Below w.heap.size w (w.alloc (.cells vCells.toArray 31))):=(Below.refl _ w).alloc ler _
 go_enter Tryz.func5,Tryz.ntmps5
 go_wp2
 go_ret
 exact⟨_,rfl,hV.out,hB.out⟩
theorem formsT_any(w:World):Calls Tryz.prog 6 #[] w fun e w'=>∃ g,e=.returned (.slice (some ⟨g,0,none⟩) 42 42)/\FIn w' g/\Below w.heap.size w w':=by
 have hV:Hid (FIn (w.alloc (.cells fCells.toArray 37)) w.heap.size):=fin_new w _
 have hB:Hid (Below w.heap.size w (w.alloc (.cells fCells.toArray 37))):=(Below.refl _ w).alloc ler _
 go_enter Tryz.func6,Tryz.ntmps6
 go_wp2
 go_ret
 exact⟨_,rfl,hV.out,hB.out⟩
end Go.Proofs.YtgnfknjopafngabGreatDoor
