import Derived.Test.YtgnfknjopafngabGreatDoorKnf
import Derived.Test.YtgnfknjopafngabGreatDoorKne
import Derived.Deep.RegionWith
import Derived.ArgAppend
set_option maxRecDepth 100000
set_option maxHeartbeats 2000000
namespace Go.Proofs.YtgnfknjopafngabGreatDoor
open Go
def listC{α:Type}(f:List UInt8->Option α)(most:Nat)(s sep:List UInt8):Option (List α):=if (M.cutS s sep).length<=most then M.allS f (M.cutS s sep) else none
theorem allS_size{α:Type}{f:List UInt8->Option α}:∀ {l:List (List UInt8)} {r:List α},M.allS f l=some r->r.length=l.length
 | [],r,h=>by simp only[M.allS,Option.some.injEq] at h;subst h;rfl
 | s :: l,r,h=>by
  simp only[M.allS] at h
  split at h
  ·cases h
  ·split at h
   ·cases h
   ·rename_i r' hr
    cases h
    simp[allS_size hr]
theorem listC_is{α:Type}(f:List UInt8->Option α)(most:Nat)(s sep:List UInt8):listC f most s sep=(match M.allS f (M.cutS s sep) with|none=>none|some l=>if l.length<=most then some l else none):=by
 unfold listC
 cases h:M.allS f (M.cutS s sep) with
 | none=>simp
 | some l=>
  have:=allS_size h
  simp only[<-this]
theorem choices_is(most:Nat)(s sep:List UInt8):listC choiceC most s sep=M.choicesS s sep most:=by
 have e:choiceC=M.choiceS:=funext choiceC_is
 rw[listC_is,e]
 unfold M.choicesS
 cases M.allS M.choiceS (M.cutS s sep) <;> rfl
theorem groups_is(s sep:List UInt8):listC (fun t=>listC choiceC 3 t [32,124,32]) 3 s sep=(match M.allS M.groupS (M.cutS s sep) with|none=>none|some l=>if l.length<=3 then some l else none):=by
 have e:(fun t=>listC choiceC 3 t [32,124,32])=M.groupS:=funext fun t=>choices_is 3 t [32,124,32]
 rw[listC_is,e]
 cases M.allS M.groupS (M.cutS s sep) <;> rfl
def foldersS(b:List UInt8):List (List UInt8):=(List.range b.length).flatMap fun i=>if Lib.hasPrefix (b.drop i) [47]=true then [b.take i] else []
theorem over_is(a b:List UInt8):M.over a b=(foldersS b).contains a:=by
 rw[Bool.eq_iff_iff,M.over,begins_pre,List.contains_iff_mem]
 unfold foldersS
 rw[List.mem_flatMap]
 constructor
 ·intro h
  obtain⟨r,rfl⟩:∃ r,b=(a++[47])++r:=⟨_,pre_split h⟩
  refine⟨a.length,by simp,?_⟩
  rw[if_pos (by simp[Lib.hasPrefix,List.isPrefixOf])]
  simp
 ·rintro ⟨i,hi,h⟩
  split at h
  ·rename_i hp
   simp only[List.mem_singleton] at h
   subst h
   unfold Lib.hasPrefix
   rw[List.isPrefixOf_iff_prefix]
   have e:=pre_split hp
   refine⟨(b.drop i).drop 1,?_⟩
   rw[List.append_assoc]
   conv=>rhs;rw[<-List.take_append_drop i b]
   rw[show ([47]:List UInt8).length=1 from rfl] at e
   rw[<-e]
  ·simp at h
def clashS(a b:List UInt8):Bool:=a == b || (foldersS b).contains a || (foldersS a).contains b
theorem clash_is(f g:M.Fl):M.apart f g = !clashS f.path g.path:=by
 unfold M.apart clashS
 rw[over_is,over_is]
 cases (foldersS g.path).contains f.path <;> cases (foldersS f.path).contains g.path <;> cases (f.path == g.path) <;> rfl
def addC(l:List M.Fl)(t:List UInt8):Option (List M.Fl):=match fileC t with
 | none=>none
 | some f=>if l.length<4/\l.any (fun g=>clashS f.path g.path)=false then some (l++[f]) else none
def filesC:List (List UInt8)->Nat->M.Pk->Sum Nat M.Pk
 | [],_,p=>.inr p
 | s :: r,k,p=>if Lib.hasPrefix s M.fileW=true then (match addC p.files (s.drop 5) with
  | none=>.inl (k+1)
  | some l=>filesC r (k+1) { p with files:=l })
  else .inl (k+1)
def barsC(ls:List (List UInt8))(k:Nat)(p:M.Pk):Sum Nat M.Pk:=match ls with
 | []=>.inr p
 | s :: r=>if Lib.hasPrefix s M.barsW=true then (match listC choiceC 3 (s.drop 5) [44,32] with
  | none=>.inl (k+1)
  | some l=>filesC r (k+1) { p with bars:=l })
  else filesC (s :: r) k p
def needsC(ls:List (List UInt8))(k:Nat)(p:M.Pk):Sum Nat M.Pk:=match ls with
 | []=>.inr p
 | s :: r=>if Lib.hasPrefix s M.needsW=true then (match listC (fun t=>listC choiceC 3 t [32,124,32]) 3 (s.drop 6) [44,32] with
  | none=>.inl (k+1)
  | some l=>barsC r (k+1) { p with needs:=l })
  else barsC (s :: r) k p
def titlesC(ls:List (List UInt8))(p:M.Pk):Sum Nat M.Pk:=match ls with
 | []=>.inl 1
 | s :: r=>if Lib.hasPrefix s packW=true then (match titleC (s.drop 8) with
  | none=>.inl 1
  | some (a,b)=>needsC r 1 { p with name:=a,ver:=b })
  else .inl 1
theorem add_line(p:M.Pk)(k:Nat)(s:List UInt8)(hk:0<k)(h:Lib.hasPrefix s M.fileW=true):M.lineS p k s=(match addC p.files (s.drop 5) with|none=>none|some l=>some { p with files:=l }):=by
 have hb:=begins_pre s M.fileW
 rw[h] at hb
 have h1:M.begins s M.needsW=false:=by
  cases e:M.begins s M.needsW with
  | false=>rfl
  | true=>
   rw[begins_pre] at e
   obtain⟨r1,e1⟩:∃ r,s=M.fileW++r:=⟨_,pre_split h⟩
   obtain⟨r2,e2⟩:∃ r,s=M.needsW++r:=⟨_,pre_split e⟩
   rw[e1] at e2;simp[M.fileW,M.needsW] at e2
 have h2:M.begins s M.barsW=false:=by
  cases e:M.begins s M.barsW with
  | false=>rfl
  | true=>
   rw[begins_pre] at e
   obtain⟨r1,e1⟩:∃ r,s=M.fileW++r:=⟨_,pre_split h⟩
   obtain⟨r2,e2⟩:∃ r,s=M.barsW++r:=⟨_,pre_split e⟩
   rw[e1] at e2;simp[M.fileW,M.barsW] at e2
 unfold M.lineS addC
 rw[if_neg (by omega),if_neg (by rw[h1];simp),if_neg (by rw[h2];simp),<-fileC_is]
 by_cases h4:p.files.length<4
 ·rw[if_pos ⟨hb,h4⟩]
  cases fileC (s.drop 5) with
  | none=>rfl
  | some f=>
   have e:p.files.all (M.apart f) = !(p.files.any (fun g=>clashS f.path g.path)):=by
    rw[show M.apart f=fun g=>!clashS f.path g.path from funext (clash_is f)]
    rw[List.not_any_eq_all_not]
   simp only[e]
   cases hc:p.files.any (fun g=>clashS f.path g.path) with
   | false=>simp[h4]
   | true=>simp
 ·rw[if_neg (fun h=>h4 h.2)]
  cases fileC (s.drop 5) with
  | none=>rfl
  | some f=>simp[h4]
theorem no_line{p:M.Pk}{k:Nat}{s:List UInt8}(hk:0<k)(h1:Lib.hasPrefix s M.fileW=false)(h2:Lib.hasPrefix s M.needsW=false\/0<p.needs.length+p.bars.length+p.files.length)
 (h3:Lib.hasPrefix s M.barsW=false\/0<p.bars.length+p.files.length):M.lineS p k s=none:=by
 unfold M.lineS
 rw[begins_pre,begins_pre,begins_pre,if_neg (by omega),if_neg,if_neg,if_neg]
 ·rw[h1];simp
 ·rintro ⟨a,b⟩
  rcases h3 with h|h
  ·rw[h] at a;cases a
  ·omega
 ·rintro ⟨a,b⟩
  rcases h2 with h|h
  ·rw[h] at a;cases a
  ·omega
theorem addC_pos{l r:List M.Fl}{t:List UInt8}(h:addC l t=some r):0<r.length:=by
 unfold addC at h
 split at h
 ·cases h
 ·split at h
  ·cases h;simp
  ·cases h
theorem files_is:∀ (ls:List (List UInt8)) (k:Nat) (p:M.Pk),0<k->(∀ s r,ls=s :: r->(Lib.hasPrefix s M.needsW=false\/0<p.needs.length+p.bars.length+p.files.length)/\(Lib.hasPrefix s M.barsW=false\/0<p.bars.length+p.files.length))->
 filesC ls k p=M.linesS ls k p
 | [],k,p,_,_=>rfl
 | s :: r,k,p,hk,h=>by
  simp only[filesC,M.linesS]
  by_cases hf:Lib.hasPrefix s M.fileW=true
  ·rw[if_pos hf,add_line p k s hk hf]
   cases ha:addC p.files (s.drop 5) with
   | none=>rfl
   | some l=>
    have:=addC_pos ha
    exact files_is r (k+1) _ (by omega) (fun s' r' _=>⟨.inr (by show 0 < _ + _ + l.length;omega),.inr (by show 0 < _ + l.length;omega)⟩)
  ·have hf':Lib.hasPrefix s M.fileW=false:=by simpa using hf
   rw[if_neg hf,no_line hk hf' (h s r rfl).1 (h s r rfl).2]
theorem pre_excl{s:List UInt8}{a b:UInt8}{t r:List UInt8}(h:Lib.hasPrefix s (a :: t)=true)(hab:a≠b):Lib.hasPrefix s (b :: r)=false:=by
 cases k:Lib.hasPrefix s (b :: r) with
 | false=>rfl
 | true=>
  obtain⟨r1,e1⟩:∃ r,s=a :: t++r:=⟨_,pre_split h⟩
  obtain⟨r2,e2⟩:∃ r',s=b :: r++r':=⟨_,pre_split k⟩
  rw[e1] at e2
  simp at e2
  exact absurd e2.1 hab
theorem listC_pos{α:Type}{f:List UInt8->Option α}{m:Nat}{s sep:List UInt8}{l:List α}(h:listC f m s sep=some l):0<l.length/\l.length<=m:=by
 unfold listC at h
 split at h
 ·rename_i hm
  rw[allS_size h]
  exact⟨(M.cutS_len s sep).1,hm⟩
 ·cases h
theorem bars_is(ls:List (List UInt8))(k:Nat)(p:M.Pk)(hk:0<k)(hp:p.bars.length+p.files.length=0)
 (h:∀ s r,ls=s :: r->Lib.hasPrefix s M.needsW=false\/0<p.needs.length):barsC ls k p=M.linesS ls k p:=by
 cases ls with
 | nil=>rfl
 | cons s r=>
  unfold barsC
  by_cases hb:Lib.hasPrefix s M.barsW=true
  ·have hn:Lib.hasPrefix s M.needsW=false:=pre_excl hb (by decide)
   simp only[if_pos hb,M.linesS]
   have e:M.lineS p k s=(match listC choiceC 3 (s.drop 5) [44,32] with|none=>none|some l=>some { p with bars:=l }):=by
    unfold M.lineS
    rw[begins_pre,begins_pre,if_neg (by omega),if_neg (by rw[hn];simp),if_pos ⟨hb,hp⟩,choices_is]
    cases M.choicesS (s.drop 5) [44,32] 3 <;> rfl
   rw[e]
   cases hl:listC choiceC 3 (s.drop 5) [44,32] with
   | none=>rfl
   | some l=>
    have:=(listC_pos hl).1
    exact files_is r (k+1) _ (by omega) (fun s' r' _=>⟨.inr (by show 0 < _ + l.length + _;omega),.inr (by show 0<l.length + _;omega)⟩)
  ·have hb':Lib.hasPrefix s M.barsW=false:=by simpa using hb
   simp only[if_neg hb]
   refine files_is (s :: r) k p hk (fun s' r' e=>?_)
   simp only[List.cons.injEq] at e
   obtain⟨rfl,_⟩:=e
   refine⟨?_,.inl hb'⟩
   rcases h s r rfl with h|h
   ·exact .inl h
   ·exact .inr (by omega)
theorem needs_is(ls:List (List UInt8))(k:Nat)(p:M.Pk)(hk:0<k)(hp:p.needs.length+p.bars.length+p.files.length=0):needsC ls k p=M.linesS ls k p:=by
 cases ls with
 | nil=>rfl
 | cons s r=>
  unfold needsC
  by_cases hn:Lib.hasPrefix s M.needsW=true
  ·simp only[if_pos hn,M.linesS]
   have e:M.lineS p k s=(match listC (fun t=>listC choiceC 3 t [32,124,32]) 3 (s.drop 6) [44,32] with|none=>none|some l=>some { p with needs:=l }):=by
    unfold M.lineS
    rw[begins_pre,if_neg (by omega),if_pos ⟨hn,hp⟩,groups_is]
    cases M.allS M.groupS (M.cutS (s.drop 6) [44,32]) with
    | none=>rfl
    | some l=>
     by_cases h3:l.length<=3
     ·simp[h3]
     ·simp[h3]
   rw[e]
   cases hl:listC (fun t=>listC choiceC 3 t [32,124,32]) 3 (s.drop 6) [44,32] with
   | none=>rfl
   | some l=>
    have:=(listC_pos hl).1
    exact bars_is r (k+1) _ (by omega) (by show p.bars.length+p.files.length=0;omega) (fun s' r' _=>.inr this)
  ·have hn':Lib.hasPrefix s M.needsW=false:=by simpa using hn
   simp only[if_neg hn]
   refine bars_is (s :: r) k p hk (by omega) (fun s' r' e=>?_)
   simp only[List.cons.injEq] at e
   obtain⟨rfl,_⟩:=e
   exact .inl hn'
theorem titles_is(ls:List (List UInt8))(hl:ls≠[]):titlesC ls M.emptyPk=M.linesS ls 0 M.emptyPk:=by
 cases ls with
 | nil=>exact absurd rfl hl
 | cons s r=>
  unfold titlesC
  simp only[M.linesS]
  have e0:M.lineS M.emptyPk 0 s=(match M.titleS s with|none=>none|some (a,b)=>some { M.emptyPk with name:=a,ver:=b }):=by
   unfold M.lineS;rw[if_pos rfl]
   cases M.titleS s <;> rfl
  rw[e0]
  by_cases hp:Lib.hasPrefix s packW=true
  ·rw[if_pos hp]
   obtain⟨t,rfl⟩:∃ t,s=packW++t:=⟨_,pre_split hp⟩
   rw[titleC_is,show (packW++t).drop 8=t from by simp[packW]]
   cases titleC t with
   | none=>rfl
   | some x=>exact needs_is r 1 _ (by omega) rfl
  ·have hp':Lib.hasPrefix s packW=false:=by simpa using hp
   rw[if_neg hp,title_none hp']
theorem trim_is(s:List UInt8):Lib.trimSuffix s [10]=M.trimS s:=by
 unfold Lib.trimSuffix M.trimS
 by_cases h:Lib.hasSuffix s [10]=true
 ·rw[if_pos h]
  have e:=suf_split h
  rw[if_pos (by rw[e];simp),List.dropLast_eq_take]
  rfl
 ·rw[if_neg h,if_neg]
  intro e
  apply h
  unfold Lib.hasSuffix
  rw[List.isSuffixOf_iff_suffix]
  obtain⟨l,rfl⟩:=List.getLast?_eq_some_iff.1 e
  exact⟨l,rfl⟩
theorem read_is(s:List UInt8)(h:s.length<=300):M.readS s=(match titlesC (M.cutS (Lib.trimSuffix s [10]) [10]) M.emptyPk with | .inl n=>.inl n | .inr p=>.inr { p with files:=M.sortF p.files }):=by
 unfold M.readS
 have hne:M.cutS (M.trimS s) [10]≠[]:=by
  have:=(M.cutS_len (M.trimS s) [10]).1
  intro e;rw[e] at this;simp at this
 rw[if_neg (by omega),trim_is,titles_is _ hne]
 cases M.linesS (M.cutS (M.trimS s) [10]) 0 M.emptyPk <;> rfl
end Go.Proofs.YtgnfknjopafngabGreatDoor
namespace Go.Proofs.YtgnfknjopafngabGreatDoor
open Go.RowKit
def MaxIs(w:World):Prop:=∃ m,w.cell? ⟨1,0,none⟩=some (.int .i64 m)
theorem MaxIs.lt{w:World}(h:MaxIs w):1<w.heap.size:=by
 obtain⟨m,h2⟩:=h
 rcases Nat.lt_or_ge 1 w.heap.size with h|h
 ·exact h
 ·simp[World.cell?,Array.getElem?_eq_none h] at h2
theorem MaxIs.below{w w':World}(h:MaxIs w)(hb:Below w.heap.size w w'):MaxIs w':=by
 have hlt:=h.lt
 obtain⟨m,h2⟩:=h
 exact⟨m,(hb.cell (p:=⟨1,0,none⟩) hlt).trans h2⟩
theorem MaxIs.drewN{w:World}(h:MaxIs w)(n:Nat):MaxIs (w.drewN n):=h.below (below_same w n)
theorem bytes_ex(l:List UInt8):∃ A:ByteArray,A.data.toList=l:=⟨⟨l.toArray⟩,rfl⟩
theorem mk_data(A:ByteArray):(⟨A.data.toList.toArray⟩:ByteArray)=A:=bytes_of rfl
theorem cut_lib(s A B:ByteArray)(c:UInt8)(ok:Bool)(w:World)(hw:MaxIs w)(hs:s.size<=1000000)(h:Lib.cut s.data.toList [c]=(A.data.toList,B.data.toList,ok)):
 Calls Tryz.prog 160 #[.string s,.string ⟨#[c]⟩] w fun e w'=>e=.returned (.tuple #[.string A,.string B,.bool ok])/\∃ n,w'=w.drewN n:=by
 obtain⟨m,hm⟩:=hw
 have:=Tryz.strings_Cut s ⟨#[c]⟩ m w (by omega) hm
 have e:Lib.cut s.data.toList (ByteArray.mk #[c]).data.toList=(A.data.toList,B.data.toList,ok):=h
 rw[e] at this
 simp only[mk_data] at this
 exact this
theorem prefix_lib(s p A:ByteArray)(ok:Bool)(w:World)(h:Lib.trimPrefix s.data.toList p.data.toList=A.data.toList)(hok:Lib.hasPrefix s.data.toList p.data.toList=ok):
 Calls Tryz.prog 159 #[.string s,.string p] w fun e w'=>e=.returned (.tuple #[.string A,.bool ok])/\w'=w:=by
 have:=Tryz.strings_CutPrefix s p w
 rw[h,hok,mk_data] at this
 exact this
theorem suffix_lib(s p A:ByteArray)(ok:Bool)(w:World)(hs:s.size<=1000000)(h:Lib.trimSuffix s.data.toList p.data.toList=A.data.toList)(hok:Lib.hasSuffix s.data.toList p.data.toList=ok):
 Calls Tryz.prog 215 #[.string s,.string p] w fun e w'=>e=.returned (.tuple #[.string A,.bool ok])/\w'=w:=by
 have:=Tryz.strings_CutSuffix s p w (by omega)
 rw[h,hok,mk_data] at this
 exact this
theorem trim_lib(s p A:ByteArray)(w:World)(hs:s.size<=1000000)(h:Lib.trimSuffix s.data.toList p.data.toList=A.data.toList):
 Calls Tryz.prog 65 #[.string s,.string p] w fun e w'=>e=.returned (.string A)/\w'=w:=by
 have:=Tryz.strings_TrimSuffix s p w (by omega)
 rw[h,mk_data] at this
 exact this
theorem split_lib(s sep:ByteArray)(ps:List ByteArray)(w:World)(hw:MaxIs w)(hs:s.size<=1000000)(h1:1<=sep.size)(h:M.cutS s.data.toList sep.data.toList=ps.map (fun p=>p.data.toList)):
 Calls Tryz.prog 64 #[.string s,.string sep] w fun e w'=>e=.returned (.slice (some ⟨w.heap.size,0,none⟩) ps.length ps.length)/\w'=w.alloc (.cells (ps.map Value.string).toArray 9):=by
 obtain⟨m,hm⟩:=hw
 have:=Tryz.strings_Split s sep m w (by omega) hm h1
 have e:=split_cut s sep h1
 rw[h] at e
 have e2:Lib.splitB sep 0 (Lib.countB s sep) s=ps:=(List.map_inj_right (fun a b hab=>bytes_of hab)).1 e
 have e3:=Lib.splitB_all sep h1 0 _ s rfl
 rw[e2] at this e3
 rw[<-e3] at this
 exact this
def GivesO{α:Type}(o:Option α)(enc:α->Value)(e:Ending):Prop:=match o with
 | some x=>e=.returned (enc x)
 | none=>Thrown e
theorem givesO_t{α:Type}{o:Option α}{enc:α->Value}{e:Ending}(x:α)(ho:o=some x)(h:e=.returned (enc x)):GivesO o enc e:=by rw[ho];exact h
theorem givesO_f{α:Type}{o:Option α}{enc:α->Value}{e:Ending}(ho:o=none)(h:Thrown e):GivesO o enc e:=by rw[ho];exact h
theorem gives_val{b:Bool}{v:Value}{e:Ending}(hb:b=true)(h:Gives b v e):e=.returned v:=by unfold Gives at h;rw[if_pos hb] at h;exact h
theorem gives_thr{b:Bool}{v:Value}{e:Ending}(hb:b=false)(h:Gives b v e):Thrown e:=by unfold Gives at h;rw[if_neg (by rw[hb];decide)] at h;exact h
theorem signB_is(s:ByteArray):signB s=signS s.data.toList:=by unfold signB signS;rw[Lib.toList_data]
theorem trimP_len(s p:List UInt8):(Lib.trimPrefix s p).length<=s.length:=by unfold Lib.trimPrefix;split <;> simp
theorem trimS_len'(s p:List UInt8):(Lib.trimSuffix s p).length<=s.length:=by unfold Lib.trimSuffix;split <;> simp
theorem cut_len(s:List UInt8)(c:UInt8):(Lib.cut s [c]).1.length<=s.length/\(Lib.cut s [c]).2.1.length<=s.length:=by
 rcases cut_cases s c with ⟨_,e,_⟩|⟨a,b,e1,_,e,_⟩
 ·rw[e];simp
 ·rw[e,e1];simp;omega
theorem len_data(s:ByteArray):s.data.toList.length=s.size:=by simp
theorem size_of{s:ByteArray}{l:List UInt8}(h:s.data.toList=l):s.size=l.length:=by rw[<-h];simp
theorem readLimit_walk(s A B C D:ByteArray)(b1 b2 ok sg vr:Bool)(w:World)(hw:Hid (MaxIs w))
 (c1:∀ wx,Calls Tryz.prog 159 #[.string s,.string ⟨#[40]⟩] wx fun e w'=>e=.returned (.tuple #[.string A,.bool b1])/\w'=wx)
 (c2:∀ wx,Calls Tryz.prog 215 #[.string A,.string ⟨#[41]⟩] wx fun e w'=>e=.returned (.tuple #[.string B,.bool b2])/\w'=wx)
 (c3:∀ wx,MaxIs wx->Calls Tryz.prog 160 #[.string B,.string ⟨#[32]⟩] wx fun e w'=>e=.returned (.tuple #[.string C,.string D,.bool ok])/\∃ n,w'=wx.drewN n)
 (c4:∀ wx,Calls Tryz.prog 216 #[.string C] wx fun e w'=>e=.returned (.bool sg)/\w'=wx)
 (c5:∀ wx,Calls Tryz.prog 162 #[.string D] wx fun e w'=>Gives vr (.string D) e/\w'=wx):
 Calls Tryz.prog 163 #[.string s] w fun e w'=>Gives (b1 && b2 && ok && sg && vr) (.tuple #[.string C,.string D]) e/\∃ n,w'=w.drewN n:=by
 have cY:=must_ok
 have cN:=must_no
 cases b1
 ·clear c2 c3 c4 c5 cY
  go_enter Tryz.func163,Tryz.ntmps163
  go_wp2_with (first|(go_at_call 159;refine(c1 _).mono ?_;rintro e w' ⟨rfl,rfl⟩)|(go_at_call 62;refine(cN _).mono ?_;rintro e w' ⟨rfl,rfl⟩))
  exact⟨rfl,gives_f rfl rfl,0,rfl⟩
 cases b2
 ·clear c3 c4 c5
  go_enter Tryz.func163,Tryz.ntmps163
  go_wp2_with (first|(go_at_call 159;refine(c1 _).mono ?_;rintro e w' ⟨rfl,rfl⟩)|(go_at_call 215;refine(c2 _).mono ?_;rintro e w' ⟨rfl,rfl⟩)|(go_at_call 62;refine(cY _).mono ?_;rintro e w' ⟨rfl,rfl⟩)|(go_at_call 62;refine(cN _).mono ?_;rintro e w' ⟨rfl,rfl⟩))
  exact⟨rfl,gives_f rfl rfl,0,rfl⟩
 cases ok
 ·clear c4 c5
  go_enter Tryz.func163,Tryz.ntmps163
  go_wp2_with (first|(go_at_call 159;refine(c1 _).mono ?_;rintro e w' ⟨rfl,rfl⟩)|(go_at_call 215;refine(c2 _).mono ?_;rintro e w' ⟨rfl,rfl⟩)|(go_at_call 160;refine(c3 _ hw.out).mono ?_;rintro e w' ⟨rfl,n,rfl⟩)|(go_at_call 62;refine(cY _).mono ?_;rintro e w' ⟨rfl,rfl⟩)|(go_at_call 62;refine(cN _).mono ?_;rintro e w' ⟨rfl,rfl⟩))
  exact⟨rfl,gives_f rfl rfl,n,rfl⟩
 cases sg
 ·clear c5
  go_enter Tryz.func163,Tryz.ntmps163
  go_wp2_with (first|(go_at_call 159;refine(c1 _).mono ?_;rintro e w' ⟨rfl,rfl⟩)|(go_at_call 215;refine(c2 _).mono ?_;rintro e w' ⟨rfl,rfl⟩)|(go_at_call 160;refine(c3 _ hw.out).mono ?_;rintro e w' ⟨rfl,n,rfl⟩)|(go_at_call 216;refine(c4 _).mono ?_;rintro e w' ⟨rfl,rfl⟩)|(go_at_call 62;refine(cY _).mono ?_;rintro e w' ⟨rfl,rfl⟩)|(go_at_call 62;refine(cN _).mono ?_;rintro e w' ⟨rfl,rfl⟩))
  exact⟨rfl,gives_f rfl rfl,n,rfl⟩
 clear cN
 cases vr
 ·replace c5:∀ wx,Calls Tryz.prog 162 #[.string D] wx fun e w'=>Thrown e/\w'=wx:=fun wx=>(c5 wx).mono fun e w' h=>⟨gives_thr rfl h.1,h.2⟩
  go_enter Tryz.func163,Tryz.ntmps163
  go_wp2_with (first|(go_at_call 159;refine(c1 _).mono ?_;rintro e w' ⟨rfl,rfl⟩)|(go_at_call 215;refine(c2 _).mono ?_;rintro e w' ⟨rfl,rfl⟩)|(go_at_call 160;refine(c3 _ hw.out).mono ?_;rintro e w' ⟨rfl,n,rfl⟩)|(go_at_call 216;refine(c4 _).mono ?_;rintro e w' ⟨rfl,rfl⟩)|(go_at_call 162;refine(c5 _).mono ?_;rintro e w' ⟨rfl,rfl⟩)|(go_at_call 62;refine(cY _).mono ?_;rintro e w' ⟨rfl,rfl⟩))
  exact⟨rfl,gives_f rfl rfl,n,rfl⟩
 ·replace c5:∀ wx,Calls Tryz.prog 162 #[.string D] wx fun e w'=>e=.returned (.string D)/\w'=wx:=fun wx=>(c5 wx).mono fun e w' h=>⟨gives_val rfl h.1,h.2⟩
  go_enter Tryz.func163,Tryz.ntmps163
  go_wp2_with (first|(go_at_call 159;refine(c1 _).mono ?_;rintro e w' ⟨rfl,rfl⟩)|(go_at_call 215;refine(c2 _).mono ?_;rintro e w' ⟨rfl,rfl⟩)|(go_at_call 160;refine(c3 _ hw.out).mono ?_;rintro e w' ⟨rfl,n,rfl⟩)|(go_at_call 216;refine(c4 _).mono ?_;rintro e w' ⟨rfl,rfl⟩)|(go_at_call 162;refine(c5 _).mono ?_;rintro e w' ⟨rfl,rfl⟩)|(go_at_call 62;refine(cY _).mono ?_;rintro e w' ⟨rfl,rfl⟩))
  go_ret2
  exact⟨gives_t rfl rfl,n,rfl⟩
theorem readLimit_any(s:ByteArray)(w:World)(hw:MaxIs w)(hs:s.size<=1000000):
 Calls Tryz.prog 163 #[.string s] w fun e w'=>GivesO (limitC s.data.toList) (fun x=>.tuple #[.string ⟨x.1.toArray⟩,.string ⟨x.2.toArray⟩]) e/\∃ n,w'=w.drewN n:=by
 obtain⟨A,hA⟩:=bytes_ex (Lib.trimPrefix s.data.toList [40])
 obtain⟨B,hB⟩:=bytes_ex (Lib.trimSuffix A.data.toList [41])
 obtain⟨C,hC⟩:=bytes_ex (Lib.cut B.data.toList [32]).1
 obtain⟨D,hD⟩:=bytes_ex (Lib.cut B.data.toList [32]).2.1
 have sA:A.size<=s.size:=by have:=trimP_len s.data.toList [40];rw[size_of hA];simpa using this
 have sB:B.size<=s.size:=by have:=trimS_len' A.data.toList [41];have h:=len_data A;rw[size_of hB];omega
 have sD:D.size<=s.size:=by have:=(cut_len B.data.toList 32).2;have h:=len_data B;rw[size_of hD];omega
 refine(readLimit_walk s A B C D (Lib.hasPrefix s.data.toList [40]) (Lib.hasSuffix A.data.toList [41]) (Lib.cut B.data.toList [32]).2.2 (signB C) (isVerK D) w hw
  (fun wx=>prefix_lib s ⟨#[40]⟩ A _ wx hA.symm rfl) (fun wx=>suffix_lib A ⟨#[41]⟩ B _ wx (by omega) hB.symm rfl) (fun wx hx=>cut_lib B C D 32 _ wx hx (by omega) (by rw[hC,hD]))
  (fun wx=>isSign_any C wx) (fun wx=>readVersion_any D wx (by omega))).mono ?_
 rintro e w' ⟨h,hn⟩
 refine⟨?_,hn⟩
 have HL:limitC s.data.toList=if Lib.hasPrefix s.data.toList [40]=true/\Lib.hasSuffix A.data.toList [41]=true/\(Lib.cut B.data.toList [32]).2.2=true/\signB C=true/\isVerK D=true then some (C.data.toList,D.data.toList) else none:=by
  unfold limitC
  rw[<-hA,<-hB,<-hC,<-hD,signB_is]
  rfl
 rw[HL]
 unfold Gives at h
 simp only[Bool.and_eq_true,and_assoc] at h
 split at h
 ·rename_i hc
  rw[if_pos hc]
  exact h
 ·rename_i hc
  rw[if_neg hc]
  exact h
def chV(c:M.Ch):Value:=.agg #[.string ⟨c.name.toArray⟩,.string ⟨c.sign.toArray⟩,.string ⟨c.ver.toArray⟩]
theorem newB(w:World)(xs:List Value)(t:TypeId)(n:Nat):
 Below w.heap.size w ((w.alloc (.cells xs.toArray t)).drewN n)/\((w.alloc (.cells xs.toArray t)).drewN n).heap.size=w.heap.size+1/\
  (∀ j u,xs[j]? = some u->((w.alloc (.cells xs.toArray t)).drewN n).cell? ⟨w.heap.size,j,none⟩=some u)/\∀ o,((w.alloc (.cells xs.toArray t)).drewN n).frozen? ⟨w.heap.size,o,none⟩=false:=by
 refine⟨below_drewN ((Below.refl _ w).alloc ler _) n,by simp,fun j u hj=>?_,fun o=>?_⟩
 ·show (w.alloc (.cells xs.toArray t)).cell? ⟨w.heap.size,j,none⟩=some u
  unfold World.cell?
  rw[(MapKept.heap_alloc w _).1]
  simp[hj]
 ·show (w.alloc (.cells xs.toArray t)).frozen? ⟨w.heap.size,o,none⟩=false
  unfold World.frozen?
  rw[(MapKept.heap_alloc w _).1]
  simp
theorem setC_off(w:World)(b o:Nat)(v:Value)(o':Nat)(h:o'≠o):(w.setCell ⟨b,o,none⟩ v).cell? ⟨b,o',none⟩=w.cell? ⟨b,o',none⟩:=
 World.cell?_setCell_other _ _ _ _ (by intro e;cases e;exact h rfl)
theorem setC_blk(w:World)(b o:Nat)(v:Value)(g o':Nat)(h:g≠b):(w.setCell ⟨b,o,none⟩ v).cell? ⟨g,o',none⟩=w.cell? ⟨g,o',none⟩:=
 World.cell?_setCell_other _ _ _ _ (by intro e;cases e;exact h rfl)
theorem setC_size(w:World)(a:Addr)(v:Value):(w.setCell a v).heap.size=w.heap.size:=by simp[World.setCell]
theorem set3(X:World)(b:Nat)(a0 a1 a2 u0 u1 u2:Value)(h0:X.cell? ⟨b,0,none⟩=some u0)(h1:X.cell? ⟨b,1,none⟩=some u1)(h2:X.cell? ⟨b,2,none⟩=some u2):
 (((X.setCell ⟨b,0,none⟩ a0).setCell ⟨b,1,none⟩ a1).setCell ⟨b,2,none⟩ a2).cell? ⟨b,0,none⟩=some a0/\
 (((X.setCell ⟨b,0,none⟩ a0).setCell ⟨b,1,none⟩ a1).setCell ⟨b,2,none⟩ a2).cell? ⟨b,1,none⟩=some a1/\
 (((X.setCell ⟨b,0,none⟩ a0).setCell ⟨b,1,none⟩ a1).setCell ⟨b,2,none⟩ a2).cell? ⟨b,2,none⟩=some a2:=by
 refine⟨?_,?_,?_⟩
 ·rw[setC_off _ _ _ _ _ (by decide),setC_off _ _ _ _ _ (by decide),World.cell?_setCell_same _ _ _ h0]
 ·rw[setC_off _ _ _ _ _ (by decide),World.cell?_setCell_same _ _ _ (by rw[setC_off _ _ _ _ _ (by decide)];exact h1)]
 ·rw[World.cell?_setCell_same _ _ _ (by rw[setC_off _ _ _ _ _ (by decide),setC_off _ _ _ _ _ (by decide)];exact h2)]
theorem readChoice_walk(s A B:ByteArray)(ok nm:Bool)(L:Option (List UInt8 × List UInt8))(w:World)(hw:Hid (MaxIs w))
 (c1:∀ wx,MaxIs wx->Calls Tryz.prog 160 #[.string s,.string ⟨#[32]⟩] wx fun e w'=>e=.returned (.tuple #[.string A,.string B,.bool ok])/\∃ n,w'=wx.drewN n)
 (c2:∀ wx,Calls Tryz.prog 161 #[.string A] wx fun e w'=>Gives nm (.string A) e/\w'=wx)
 (c3:∀ wx,MaxIs wx->Calls Tryz.prog 163 #[.string B] wx fun e w'=>GivesO L (fun x=>.tuple #[.string ⟨x.1.toArray⟩,.string ⟨x.2.toArray⟩]) e/\∃ n,w'=wx.drewN n):
 Calls Tryz.prog 118 #[.string s] w fun e w'=>GivesO (if nm=true then (if ok=true then L.map (fun x=>(⟨A.data.toList,x.1,x.2⟩:M.Ch)) else some ⟨A.data.toList,[],[]⟩) else none) chV e/\Below w.heap.size w w':=by
 have hwA:∀ o,MaxIs (w.alloc o):=fun o=>hw.out.below ((Below.refl _ w).alloc ler _)
 go_enter Tryz.func118,Tryz.ntmps118
 go_wp2_with fail
 refine(c1 _ (hwA _)).mono ?_
 rintro e w' ⟨rfl,n,rfl⟩
 obtain⟨hB1,hz,hcl,hfz⟩:=newB w [.string ⟨#[]⟩,.string ⟨#[]⟩,.string ⟨#[]⟩] 140 n
 generalize hW:(w.alloc (.cells [Value.string ⟨#[]⟩,.string ⟨#[]⟩,.string ⟨#[]⟩].toArray 140)).drewN n=W1 at hB1 hz hcl hfz
 have q0:=hcl 0 _ rfl
 have q1:=hcl 1 _ rfl
 have q2:=hcl 2 _ rfl
 have HB1:=hid hB1
 have hm1:=hw.out.below hB1
 replace hm1:Hid (MaxIs W1):=hm1
 have hmA:∀ o,MaxIs (W1.alloc o):=fun o=>hm1.out.below ((Below.refl _ W1).alloc ler _)
 have hBA:∀ o n,Below w.heap.size w ((W1.alloc o).drewN n):=fun o n=>bt HB1.out (below_drewN ((Below.refl _ W1).alloc ler _) n)
 change _ = _ at hW
 simp only[List.toArray] at hW
 cases nm
 ·clear c3
  replace c2:∀ wx,Calls Tryz.prog 161 #[.string A] wx fun e w'=>Thrown e/\w'=wx:=fun wx=>(c2 wx).mono fun e w' h=>⟨gives_thr rfl h.1,h.2⟩
  go_wp2_with ((go_at_call 161;refine(c2 _).mono ?_;rintro e w' ⟨rfl,rfl⟩))
  exact⟨rfl,givesO_f rfl rfl,HB1.out⟩
 replace c2:∀ wx,Calls Tryz.prog 161 #[.string A] wx fun e w'=>e=.returned (.string A)/\w'=wx:=fun wx=>(c2 wx).mono fun e w' h=>⟨gives_val rfl h.1,h.2⟩
 cases ok
 ·clear c3
  go_wp2_with ((go_at_call 161;refine(c2 _).mono ?_;rintro e w' ⟨rfl,rfl⟩))
  obtain⟨k0,k1,k2⟩:=set3 w' w.heap.size (.string A) (.string ⟨#[]⟩) (.string ⟨#[]⟩) _ _ _ q0 q1 q2
  have hp:∀ o j,((((w'.setCell ⟨w.heap.size,0,none⟩ (.string A)).setCell ⟨w.heap.size,1,none⟩ (.string ⟨#[]⟩)).setCell ⟨w.heap.size,2,none⟩ (.string ⟨#[]⟩)).alloc o).cell? ⟨w.heap.size,j,none⟩=(((w'.setCell ⟨w.heap.size,0,none⟩ (.string A)).setCell ⟨w.heap.size,1,none⟩ (.string ⟨#[]⟩)).setCell ⟨w.heap.size,2,none⟩ (.string ⟨#[]⟩)).cell? ⟨w.heap.size,j,none⟩:=fun o j=>World.cell?_alloc_past _ _ _ (by simp[hz])
  refine bodyPost_ret (v:=.agg #[.string A,.string ⟨#[]⟩,.string ⟨#[]⟩]) (by simp[results,Tryz.results118,go_sem,hp,k0,k1,k2]) rfl ⟨givesO_t _ rfl rfl,?_⟩
  exact(((HB1.out.setCell ler _).setCell ler _).setCell ler _).alloc (by simp;omega) _
 cases L with
 | none=>
  replace c3:∀ wx,MaxIs wx->Calls Tryz.prog 163 #[.string B] wx fun e w'=>Thrown e/\∃ n,w'=wx.drewN n:=fun wx h=>(c3 wx h).mono fun e w' h=>h
  go_wp2_with (first|(go_at_call 161;refine(c2 _).mono ?_;rintro e w' ⟨rfl,rfl⟩)|(go_at_call 163;refine(c3 _ (hmA _)).mono ?_;rintro e w' ⟨rfl,k,rfl⟩))
  exact⟨rfl,givesO_f rfl rfl,hBA _ k⟩
 | some x=>
  replace c3:∀ wx,MaxIs wx->Calls Tryz.prog 163 #[.string B] wx fun e w'=>e=.returned (.tuple #[.string ⟨x.1.toArray⟩,.string ⟨x.2.toArray⟩])/\∃ n,w'=wx.drewN n:=fun wx h=>(c3 wx h).mono fun e w' h=>h
  go_wp2_with (first|(go_at_call 161;refine(c2 _).mono ?_;rintro e w' ⟨rfl,rfl⟩)|(go_at_call 163;refine(c3 _ (hmA _)).mono ?_;rintro e w' ⟨rfl,k,rfl⟩))
  have hB9:=hBA (.cells #[.string A,.string ⟨#[]⟩,.string ⟨#[]⟩] 140) k
  obtain⟨hB5,hz5,hcl5,_⟩:=newB w' [.string A,.string ⟨#[]⟩,.string ⟨#[]⟩] 140 k
  have hold:∀ j,((w'.alloc (.cells #[.string A,.string ⟨#[]⟩,.string ⟨#[]⟩] 140)).drewN k).cell? ⟨w.heap.size,j,none⟩=w'.cell? ⟨w.heap.size,j,none⟩:=fun j=>hB5.cell (p:=⟨w.heap.size,j,none⟩) (by simp[hz])
  generalize (w'.alloc (.cells #[.string A,.string ⟨#[]⟩,.string ⟨#[]⟩] 140)).drewN k=W5 at hB9 hold ⊢
  have hne:w.heap.size≠w.heap.size+1:=by omega
  obtain⟨k0,k1,k2⟩:=set3 ((W5.setCell ⟨w.heap.size+1,1,none⟩ (.string ⟨x.1.toArray⟩)).setCell ⟨w.heap.size+1,2,none⟩ (.string ⟨x.2.toArray⟩)) w.heap.size (.string A) (.string ⟨x.1.toArray⟩) (.string ⟨x.2.toArray⟩) _ _ _
   (by rw[setC_blk _ _ _ _ _ _ hne,setC_blk _ _ _ _ _ _ hne,hold];exact q0) (by rw[setC_blk _ _ _ _ _ _ hne,setC_blk _ _ _ _ _ _ hne,hold];exact q1) (by rw[setC_blk _ _ _ _ _ _ hne,setC_blk _ _ _ _ _ _ hne,hold];exact q2)
  refine bodyPost_ret (v:=.agg #[.string A,.string ⟨x.1.toArray⟩,.string ⟨x.2.toArray⟩]) (by simp[results,Tryz.results118,go_sem,k0,k1,k2]) rfl ⟨givesO_t _ rfl rfl,?_⟩
  exact((((hB9.setCell (show w.heap.size<=w.heap.size+1 by omega) _).setCell (show w.heap.size<=w.heap.size+1 by omega) _).setCell ler _).setCell ler _).setCell ler _
theorem readChoice_any(s:ByteArray)(w:World)(hw:MaxIs w)(hs:s.size<=1000000):
 Calls Tryz.prog 118 #[.string s] w fun e w'=>GivesO (choiceC s.data.toList) chV e/\Below w.heap.size w w':=by
 obtain⟨A,hA⟩:=bytes_ex (Lib.cut s.data.toList [32]).1
 obtain⟨B,hB⟩:=bytes_ex (Lib.cut s.data.toList [32]).2.1
 have h:=len_data s
 have sA:A.size<=s.size:=by have:=(cut_len s.data.toList 32).1;rw[size_of hA];omega
 have sB:B.size<=s.size:=by have:=(cut_len s.data.toList 32).2;rw[size_of hB];omega
 refine(readChoice_walk s A B (Lib.cut s.data.toList [32]).2.2 (isNameK A) (limitC B.data.toList) w hw
  (fun wx hx=>cut_lib s A B 32 _ wx hx (by omega) (by rw[hA,hB])) (fun wx=>readName_any A wx (by omega)) (fun wx hx=>readLimit_any B wx hx (by omega))).mono ?_
 rintro e w' ⟨h,hn⟩
 refine⟨?_,hn⟩
 have HL:choiceC s.data.toList=(if isNameK A=true then (if (Lib.cut s.data.toList [32]).2.2=true then (limitC B.data.toList).map (fun x=>(⟨A.data.toList,x.1,x.2⟩:M.Ch)) else some ⟨A.data.toList,[],[]⟩) else none):=by
  unfold choiceC
  rw[<-hA,<-hB]
  show (if isNameK A=true then _ else _) = _
  cases limitC B.data.toList <;> rfl
 rw[HL]
 exact h
def firstB(a b:ByteArray):ByteArray:=⟨(M.firstS a.data.toList b.data.toList).toArray⟩
theorem firstB_b{a b:ByteArray}(h:a.toList.isEmpty=true\/(b.toList.isEmpty=false/\Op.bytesLess b.toList a.toList=true)):firstB a b=b:=by
 apply bytes_of
 show M.firstS a.data.toList b.data.toList = _
 unfold M.firstS
 rw[Lib.toList_data,Lib.toList_data] at h
 rw[if_pos]
 rcases h with h|⟨h1,h2⟩
 ·exact .inl (List.isEmpty_iff.1 h)
 ·exact .inr ⟨(by intro e;rw[e] at h1;cases h1),h2⟩
theorem firstB_a{a b:ByteArray}(h0:a.toList.isEmpty=false)(h:b.toList.isEmpty=true\/Op.bytesLess b.toList a.toList=false):firstB a b=a:=by
 apply bytes_of
 show M.firstS a.data.toList b.data.toList = _
 unfold M.firstS
 rw[Lib.toList_data] at h0
 rw[Lib.toList_data,Lib.toList_data] at h
 rw[if_neg]
 rintro (h1|⟨h1,h2⟩)
 ·rw[h1] at h0;cases h0
 ·rcases h with h|h
  ·exact h1 (List.isEmpty_iff.1 h)
  ·rw[h2] at h;cases h
def fitsB(A S V N P:ByteArray):Bool:=M.fitsS ⟨A.data.toList,S.data.toList,V.data.toList⟩ ⟨N.data.toList,P.data.toList,[],[],[]⟩
theorem fitsB_no{A S V N P:ByteArray}(h:(A.toList == N.toList)=false):fitsB A S V N P=false:=by
 unfold fitsB M.fitsS
 rw[if_neg]
 rw[Lib.toList_data,Lib.toList_data,beq_eq_false_iff_ne] at h
 exact h
theorem fitsB_is{A S V N P:ByteArray}(h:(A.toList == N.toList)=true):fitsB A S V N P =
 (if S.toList == [60,60] then decide (verB P V<0) else if S.toList == [60,61] then decide (verB P V<=0) else if S.toList == [61] then decide (verB P V=0) else if S.toList == [62,61] then decide (0<=verB P V) else if S.toList == [62,62] then decide (0<verB P V) else true):=by
 unfold fitsB M.fitsS
 rw[Lib.toList_data,Lib.toList_data,beq_iff_eq] at h
 rw[if_pos h]
 simp only[Lib.toList_data,beq_iff_eq]
 rfl
def PkCell(w:World)(g o:Nat)(p:M.Pk):Prop:=
 ∃ nv bv fv,w.cell? ⟨g,o,none⟩=some (.string ⟨p.name.toArray⟩)/\w.cell? ⟨g,o+1,none⟩=some (.string ⟨p.ver.toArray⟩)/\w.cell? ⟨g,o+2,none⟩=some nv/\w.cell? ⟨g,o+3,none⟩=some bv/\w.cell? ⟨g,o+4,none⟩=some fv/\
  NeedsIn w 0 w.heap.size nv p.needs/\RowIn w 0 w.heap.size bv p.bars.length (chsCells p.bars)/\RowIn w 0 w.heap.size fv p.files.length (flsCells p.files)
def PksIn(w:World)(v:Value)(l:List M.Pk):Prop:=
 (l=[]/\∃ a c,v=.slice a 0 c)\/∃ g off cap,v=.slice (some ⟨g,off,none⟩) l.length cap/\l.length<=cap/\g<w.heap.size/\∀ (i:Nat) p,l[i]? = some p->PkCell w g (off+i*5) p
theorem PksIn.form{w:World}{v:Value}{l:List M.Pk}(h:PksIn w v l):∃ a cap,v=.slice a l.length cap:=by
 rcases h with ⟨rfl,a,c,rfl⟩|⟨g,off,cap,rfl,_⟩
 ·exact⟨a,c,rfl⟩
 ·exact⟨_,_,rfl⟩
theorem PksIn.cells{w:World}{a:Option Addr}{n cap:Nat}{l:List M.Pk}(h:PksIn w (.slice a n cap) l){i:Nat}(hi:i<l.length):
 ∃ g off,a=some ⟨g,off,none⟩/\n=l.length/\n<=cap/\PkCell w g (off+i*5) l[i]:=by
 rcases h with ⟨rfl,_⟩|⟨g,off,cap',e,h2,h3,h4⟩
 ·simp at hi
 ·cases e
  exact⟨g,off,rfl,rfl,h2,h4 i _ (List.getElem?_eq_getElem hi)⟩
def fitsC(c:M.Ch)(p:M.Pk):Bool:=M.fitsS c p
theorem fitsB_c(c:M.Ch)(p:M.Pk):fitsB ⟨c.name.toArray⟩ ⟨c.sign.toArray⟩ ⟨c.ver.toArray⟩ ⟨p.name.toArray⟩ ⟨p.ver.toArray⟩=fitsC c p:=rfl
structure SmallP (p:M.Pk):Prop where
 ver:p.ver.length<=8192
 needn:p.needs.length<=1000000
 needs:∀ g∈p.needs,g.length<=1000000/\∀ c∈g,c.ver.length<=8192
 barn:p.bars.length<=1000000
 bars:∀ c∈p.bars,c.ver.length<=8192
 filen:p.files.length<=1000000
theorem PkVal.below{w w':World}{p:M.Pk}{v:Value}(h:PkVal w p v)(hb:Below w.heap.size w w'):PkVal w' p v:=by
 obtain⟨nv,bv,fv,e,h5,h6,h7⟩:=h
 have kk:∀ g' o',0<=g'->g'<w.heap.size->CellS w w' g' o':=fun g' o' _ hg'=>belowS hb hg'
 exact⟨nv,bv,fv,e,(h5.keep kk).wide (Nat.zero_le _) hb.size,(h6.keep kk).wide (Nat.zero_le _) hb.size,(h7.keep kk).wide (Nat.zero_le _) hb.size⟩
def PkRow(w:World):List M.Pk->List Value->Prop
 | [],xs=>xs=[]
 | p :: l,xs=>∃ nv bv fv xs',xs=.string ⟨p.name.toArray⟩ :: .string ⟨p.ver.toArray⟩ :: nv :: bv :: fv :: xs'/\
  NeedsIn w 0 w.heap.size nv p.needs/\RowIn w 0 w.heap.size bv p.bars.length (chsCells p.bars)/\RowIn w 0 w.heap.size fv p.files.length (flsCells p.files)/\PkRow w l xs'
theorem PkRow.cells{w:World}{l:List M.Pk}{xs:List Value}{g off:Nat}(h:PkRow w l xs)(hc:∀ j u,xs[j]? = some u->w.cell? ⟨g,off+j,none⟩=some u):
 ∀ (i:Nat) p,l[i]? = some p->PkCell w g (off+i*5) p:=by
 induction l generalizing xs off with
 | nil=>intro i p hp;simp at hp
 | cons q l ih=>
  obtain⟨nv,bv,fv,xs',rfl,h1,h2,h3,h⟩:=h
  intro i p hp
  cases i with
  | zero=>
   simp at hp
   subst hp
   exact⟨nv,bv,fv,hc 0 _ rfl,hc 1 _ rfl,hc 2 _ rfl,hc 3 _ rfl,hc 4 _ rfl,h1,h2,h3⟩
  | succ i=>
   have:=ih (off:=off+5) h (fun j u hu=>by
    have:=hc (j+5) u (by simpa using hu)
    rwa [show off+(j+5)=off+5+j by omega] at this) i p (by simpa using hp)
   rwa [show off+5+i*5=off+(i+1)*5 by omega] at this
theorem PksIn.own{w:World}{B e:Nat}{v:Value}{l:List M.Pk}{xs:List Value}(h:PkRow w l xs)(ho:w.ownsRow B e 5 v l.length xs)(he:e≠9:=by decide):PksIn w v l:=by
 obtain⟨rfl,h0,rfl⟩|⟨g,cap,rfl,h2,_,h4,h5⟩:=RowIn.own ho (fun h=>absurd h he)
 ·exact .inl ⟨List.length_eq_zero_iff.mp h0,none,0,rfl⟩
 ·exact .inr ⟨g,0,cap,rfl,h2,h4.1,h.cells (fun j u hu=>by rw[Nat.zero_add];exact h5 j u hu)⟩
def nmCells(l:List (List UInt8)):List Value:=l.map strV
end Go.Proofs.YtgnfknjopafngabGreatDoor
