import Derived.Test.YtgnfknjopafngabGreatDoorKna
set_option maxRecDepth 100000
set_option maxHeartbeats 1000000
namespace Go.Proofs.YtgnfknjopafngabGreatDoor
namespace M
def lexC:List Int->List Int->Int
 | [],[]=>0
 | [],y :: ys=>if cmpI 0 y=0 then lexC [] ys else cmpI 0 y
 | x :: xs,[]=>if cmpI x 0=0 then lexC xs [] else cmpI x 0
 | x :: xs,y :: ys=>if cmpI x y=0 then lexC xs ys else cmpI x y
theorem cmpI_self(x:Int):cmpI x x=0:=by unfold cmpI;simp
theorem cmpI_zero{x y:Int}:cmpI x y=0↔x=y:=by unfold cmpI;split <;> (try split) <;> omega
theorem cmpI_neg(x y:Int):cmpI x y = - cmpI y x:=by unfold cmpI;split <;> split <;> (try split) <;> omega
theorem cmpI_bd(x y:Int) : -1<=cmpI x y/\cmpI x y<=1:=by unfold cmpI;split <;> (try split) <;> omega
theorem cmpI_congr{x y a b:Int}(h:x<y↔a<b)(k:y<x↔b<a):cmpI x y=cmpI a b:=by unfold cmpI;simp only[h,k]
theorem lexC_step(x y:List Int):lexC x y=if cmpI (x.headD 0) (y.headD 0)=0 then lexC x.tail y.tail else cmpI (x.headD 0) (y.headD 0):=by
 cases x with
 | nil=>cases y with
  | nil=>simp[lexC,cmpI_self]
  | cons b y=>simp[lexC]
 | cons a x=>cases y with
  | nil=>simp[lexC]
  | cons b y=>simp[lexC]
theorem lexC_bd:∀ (x y:List Int),-1<=lexC x y/\lexC x y<=1
 | [],[]=>by simp[lexC]
 | [],y :: ys=>by unfold lexC;have:=lexC_bd [] ys;have:=cmpI_bd 0 y;split <;> omega
 | x :: xs,[]=>by unfold lexC;have:=lexC_bd xs [];have:=cmpI_bd x 0;split <;> omega
 | x :: xs,y :: ys=>by unfold lexC;have:=lexC_bd xs ys;have:=cmpI_bd x y;split <;> omega
theorem lexC_neg:∀ (x y:List Int),lexC x y = - lexC y x
 | [],[]=>by simp[lexC]
 | [],y :: ys=>by
  unfold lexC;have h:=lexC_neg [] ys;have k:=cmpI_neg 0 y
  by_cases e:cmpI 0 y=0
  ·rw[if_pos e,if_pos (by omega),h]
  ·rw[if_neg e,if_neg (by omega),k]
 | x :: xs,[]=>by
  unfold lexC;have h:=lexC_neg xs [];have k:=cmpI_neg x 0
  by_cases e:cmpI x 0=0
  ·rw[if_pos e,if_pos (by omega),h]
  ·rw[if_neg e,if_neg (by omega),k]
 | x :: xs,y :: ys=>by
  unfold lexC;have h:=lexC_neg xs ys;have k:=cmpI_neg x y
  by_cases e:cmpI x y=0
  ·rw[if_pos e,if_pos (by omega),h]
  ·rw[if_neg e,if_neg (by omega),k]
theorem getD_tail(x:List Int)(j:Nat):x.tail.getD j 0=x.getD (j+1) 0:=by cases x <;> simp
theorem lexC_at:∀ (k:Nat) (x y:List Int),(∀ j,j<k->x.getD j 0=y.getD j 0)->lexC x y=lexC (x.drop k) (y.drop k)
 | 0,x,y,_=>by simp
 | k+1,x,y,h=>by
  rw[lexC_step]
  have h0:=h 0 (by omega)
  have e:cmpI (x.headD 0) (y.headD 0)=0:=by
   rw[cmpI_zero]
   cases x <;> cases y <;> simp_all
  rw[if_pos e,lexC_at k x.tail y.tail (fun j hj=>by rw[getD_tail,getD_tail];exact h (j+1) (by omega))]
  simp
theorem headD_drop(x:List Int)(k:Nat):(x.drop k).headD 0=x.getD k 0:=by
 induction k generalizing x with
 | zero=>cases x <;> simp
 | succ k ih=>cases x with
  | nil=>simp
  | cons a x=>rw[List.drop_succ_cons,ih x];rfl
theorem lexC_diff{k:Nat}{x y:List Int}(h:∀ j,j<k->x.getD j 0=y.getD j 0)(hk:cmpI (x.getD k 0) (y.getD k 0)≠0):
 lexC x y=cmpI (x.getD k 0) (y.getD k 0):=by
 rw[lexC_at k x y h,lexC_step,headD_drop,headD_drop,if_neg hk]
theorem lexC_same{k:Nat}{x y:List Int}(h:∀ j,j<k->x.getD j 0=y.getD j 0)(hx:x.length<=k)(hy:y.length<=k):
 lexC x y=0:=by
 rw[lexC_at k x y h,List.drop_eq_nil_of_le hx,List.drop_eq_nil_of_le hy];simp[lexC]
theorem lexC_words:∀ (a b:List Int) (x y:List Int),(∀ v∈a,v≠0)->(∀ v∈b,v≠0)->
 lexC (a++0 :: x) (b++0 :: y)=if lexC a b=0 then lexC x y else lexC a b
 | [],[],x,y,_,_=>by simp[lexC,cmpI_self]
 | [],b :: bs,x,y,_,hb=>by
  have h:cmpI 0 b≠0:=fun e=>hb b (by simp) (cmpI_zero.mp e).symm
  simp[lexC,h]
 | a :: as1,[],x,y,ha,_=>by
  have h:cmpI a 0≠0:=fun e=>ha a (by simp) (cmpI_zero.mp e)
  simp[lexC,h]
 | a :: as1,b :: bs,x,y,ha,hb=>by
  have ih:=lexC_words as1 bs x y (fun v hv=>ha v (by simp[hv])) (fun v hv=>hb v (by simp[hv]))
  by_cases e:cmpI a b=0
  ·simp[lexC,e,ih]
  ·simp[lexC,e]
def num:List UInt8->Nat
 | []=>0
 | b :: l=>(b.toNat-48)*10 ^ l.length+num l
def Digits(l:List UInt8):Prop:=∀ b∈l,48<=b.toNat/\b.toNat<=57
theorem num_lt:∀ {l:List UInt8},Digits l->num l<10 ^ l.length
 | [],_=>by simp[num]
 | b :: l,h=>by
  have ih:=num_lt (l:=l) (fun c hc=>h c (by simp[hc]))
  have hb:=h b (by simp)
  have:=Nat.mul_le_mul_right (10 ^ l.length) (show b.toNat-48<=9 by omega)
  simp only[num,List.length_cons,Nat.pow_succ]
  omega
theorem num_nought(l:List UInt8):num (48 :: l)=num l:=by simp[num]
theorem num_strip:∀ (l:List UInt8),num (strip l)=num l
 | []=>rfl
 | b :: l=>by
  unfold strip
  rw[List.dropWhile_cons]
  by_cases h:b=48
  ·subst h;have:=num_strip l;unfold strip at this;simpa [num_nought] using this
  ·simp[h]
theorem strip_head:∀ (l:List UInt8),∀ b r,strip l=b :: r->b≠48
 | [],b,r,h=>by simp[strip] at h
 | c :: l,b,r,h=>by
  unfold strip at h
  rw[List.dropWhile_cons] at h
  by_cases e:c=48
  ·subst e;exact strip_head l b r (by simpa [strip] using h)
  ·simp[e] at h;exact h.1 ▸ e
theorem strip_digits{l:List UInt8}(h:Digits l):Digits (strip l):=fun b hb=>h b ((List.dropWhile_sublist _).subset hb)
theorem num_ge{b:UInt8}{l:List UInt8}(hb:49<=b.toNat):10 ^ l.length<=num (b :: l):=by
 have:=Nat.mul_le_mul_right (10 ^ l.length) (show 1<=b.toNat-48 by omega)
 simp only[num];omega
theorem compareBytes_num:∀ {a b:List UInt8},Digits a->Digits b->a.length=b.length->Lib.compareBytes a b=cmpI (num a) (num b)
 | [],[],_,_,_=>by simp[Lib.compareBytes,num,cmpI]
 | [],_ :: _,_,_,h=>by simp at h
 | _ :: _,[],_,_,h=>by simp at h
 | x :: a,y :: b,ha,hb,hl=>by
  have hl':a.length=b.length:=by simpa using hl
  have da:Digits a:=fun c hc=>ha c (by simp[hc])
  have db:Digits b:=fun c hc=>hb c (by simp[hc])
  have ih:=compareBytes_num da db hl'
  have hx:=ha x (by simp);have hy:=hb y (by simp)
  have la:=num_lt da;have lb:=num_lt db
  unfold Lib.compareBytes
  simp only[num,hl'] at *
  generalize 10 ^ b.length=t at *
  by_cases h1:x<y
  ·have h1':x.toNat<y.toNat:=UInt8.lt_iff_toNat_lt.mp h1
   have:=Nat.mul_le_mul_right t (show x.toNat-48+1<=y.toNat-48 by omega)
   rw[Nat.add_mul] at this
   rw[if_pos h1]
   unfold cmpI
   rw[if_pos (by omega)]
  ·rw[if_neg h1]
   have h1':¬ x.toNat<y.toNat:=fun h=>h1 (UInt8.lt_iff_toNat_lt.mpr h)
   by_cases h2:y<x
   ·have h2':y.toNat<x.toNat:=UInt8.lt_iff_toNat_lt.mp h2
    have:=Nat.mul_le_mul_right t (show y.toNat-48+1<=x.toNat-48 by omega)
    rw[Nat.add_mul] at this
    rw[if_pos h2]
    unfold cmpI
    rw[if_neg (by omega),if_pos (by omega)]
   ·have h2':¬ y.toNat<x.toNat:=fun h=>h2 (UInt8.lt_iff_toNat_lt.mpr h)
    rw[if_neg h2,ih,show x.toNat=y.toNat by omega]
    exact cmpI_congr (by omega) (by omega)
def numC(a b:List UInt8):Int:=
 if cmpI (strip a).length (strip b).length=0 then Lib.compareBytes (strip a) (strip b) else cmpI (strip a).length (strip b).length
theorem num_long{a b:List UInt8}(da:Digits a)(db:Digits b)(hl:a.length<b.length)(hb:∀ x r,b=x :: r->x≠48):num a<num b:=by
 cases b with
 | nil=>simp at hl
 | cons x r=>
  have hx:=hb x r rfl
  have dx:=db x (by simp)
  have:x.toNat≠48:=fun e=>hx (UInt8.toNat_inj.mp (by simpa using e))
  have h1:=num_lt da
  have h2:=num_ge (b:=x) (l:=r) (by omega)
  have h3:10 ^ a.length<=10 ^ r.length:=Nat.pow_le_pow_right (by omega) (by simp at hl;omega)
  omega
theorem numC_eq{a b:List UInt8}(da:Digits a)(db:Digits b):numC a b=cmpI (num a) (num b):=by
 have sa:=strip_digits da;have sb:=strip_digits db
 rw[<-num_strip a,<-num_strip b]
 unfold numC
 by_cases h:cmpI (strip a).length (strip b).length=0
 ·rw[if_pos h]
  exact compareBytes_num sa sb (by have:=cmpI_zero.mp h;omega)
 ·rw[if_neg h]
  have hn:(strip a).length≠(strip b).length:=fun e=>h (cmpI_zero.mpr (by omega))
  by_cases hl:(strip a).length<(strip b).length
  ·have:=num_long sa sb hl (fun x r e=>strip_head b x r e)
   exact cmpI_congr (by omega) (by omega)
  ·have:=num_long sb sa (by omega) (fun x r e=>strip_head a x r e)
   exact cmpI_congr (by omega) (by omega)
def ranks(l:List UInt8):List Int:=l.map (fun b=>rk b.toNat)
def rkAt(l:List UInt8)(k:Nat):Int:=(ranks l).getD k 0
theorem rk_ne(b:UInt8):rk b.toNat≠0:=by
 unfold rk isLt;have:=b.toNat_lt;split
 ·omega
 ·split
  ·rename_i h;simp at h;omega
  ·omega
theorem ranks_ne(l:List UInt8):∀ v∈ranks l,v≠0:=by
 intro v hv;unfold ranks at hv;rw[List.mem_map] at hv;obtain⟨b,_,rfl⟩:=hv;exact rk_ne b
theorem lead_two{l:List UInt8}(h:l≠[]):0<lead isNo l\/0<lead isD (l.drop (lead isNo l)):=by
 cases l with
 | nil=>exact absurd rfl h
 | cons b l=>
  rw[lead_cons]
  by_cases hb:isNo b.toNat=true
  ·left;rw[if_pos hb];omega
  ·right;rw[if_neg hb,List.drop_zero,lead_cons,if_pos (by unfold isNo at hb;simpa using hb)];omega
def keyF:Nat->List UInt8->List Int
 | 0,_=>[]
 | n+1,l=>if l=[] then [] else
  ranks (l.take (lead isNo l))++0 :: (num ((l.drop (lead isNo l)).take (lead isD (l.drop (lead isNo l)))):Int) ::
   keyF n ((l.drop (lead isNo l)).drop (lead isD (l.drop (lead isNo l))))
def key(l:List UInt8):List Int:=keyF l.length l
theorem rest_lt{l:List UInt8}(h:l≠[]):((l.drop (lead isNo l)).drop (lead isD (l.drop (lead isNo l)))).length<l.length:=by
 have h1:=lead_two h
 have h2:=lead_le isNo l
 have h3:=lead_le isD (l.drop (lead isNo l))
 have:l.length≠0:=fun e=>h (List.length_eq_zero_iff.mp e)
 simp only[List.length_drop] at *
 omega
theorem keyF_any:∀ (n m:Nat) (l:List UInt8),l.length<=n->l.length<=m->keyF n l=keyF m l
 | 0,m,l,hn,_=>by
  have:l=[]:=List.length_eq_zero_iff.mp (by omega)
  subst this
  cases m <;> simp[keyF]
 | n+1,0,l,_,hm=>by
  have:l=[]:=List.length_eq_zero_iff.mp (by omega)
  subst this
  simp[keyF]
 | n+1,m+1,l,hn,hm=>by
  by_cases h:l=[]
  ·simp[keyF,h]
  ·have hr:=rest_lt h
   simp only[keyF,if_neg h]
   rw[keyF_any n m _ (by omega) (by omega)]
theorem lexC_pad1(y:List Int):∀ x,lexC (x++[0]) y=lexC x y
 | []=>by cases y with
  | nil=>simp[lexC,cmpI_self]
  | cons b y=>simp[lexC]
 | a :: x=>by
  rw[lexC_step,lexC_step (a :: x)]
  simp only[List.cons_append,List.headD_cons,List.tail_cons]
  rw[lexC_pad1 y.tail x]
  rfl
def row(l:List UInt8):List Int:=
 ranks (l.take (lead isNo l))++0 :: (num ((l.drop (lead isNo l)).take (lead isD (l.drop (lead isNo l)))):Int) ::
  key ((l.drop (lead isNo l)).drop (lead isD (l.drop (lead isNo l))))
theorem key_row{l:List UInt8}(h:l≠[]):key l=row l:=by
 have hr:=rest_lt h
 have hl:l.length≠0:=fun e=>h (List.length_eq_zero_iff.mp e)
 have e:key l=keyF (l.length-1+1) l:=by unfold key;exact keyF_any _ _ _ (by omega) (by omega)
 rw[e]
 simp only[keyF,if_neg h]
 unfold row key
 rw[keyF_any (l.length-1) _ _ (by omega) ler]
theorem row_nil:row []=[0,0]:=by
 unfold row;simp[lead_nil,ranks,num,key,keyF]
theorem key_nil:key []=[]:=rfl
theorem lexC_row1(l:List UInt8)(y:List Int):lexC (key l) y=lexC (row l) y:=by
 by_cases h:l=[]
 ·subst h
  rw[row_nil,key_nil,show ([0,0]:List Int)=([]++[0])++[0] from rfl,lexC_pad1,lexC_pad1]
 ·rw[key_row h]
theorem lexC_row2(x:List Int)(l:List UInt8):lexC x (key l)=lexC x (row l):=by
 rw[lexC_neg,lexC_row1,<-lexC_neg]
def verC(a b:List UInt8):Int:=lexC (key a) (key b)
def wordC(a b:List UInt8):Int:=lexC (ranks a) (ranks b)
theorem wordC_diff{a b:List UInt8}{k:Nat}(h:∀ j,j<k->rkAt a j=rkAt b j)(hk:¬ cmpI (rkAt a k) (rkAt b k)=0):wordC a b=cmpI (rkAt a k) (rkAt b k):=
 lexC_diff h hk
theorem wordC_same{a b:List UInt8}{k:Nat}(h:∀ j,j<k->rkAt a j=rkAt b j)(ha:a.length<=k)(hb:b.length<=k):wordC a b=0:=
 lexC_same h (by simpa [ranks] using ha) (by simpa [ranks] using hb)
theorem strip_nought{l:List UInt8}(h:0<l.length)(h0:l[0].toNat=48):strip (l.drop 1)=strip l:=by
 cases l with
 | nil=>simp at h
 | cons b l=>
  have e:b=48:=UInt8.toNat_inj.mp (by simpa using h0)
  subst e;simp[strip]
theorem strip_stop{l:List UInt8}(h:0<l.length)(h0:¬ l[0].toNat=48):strip l=l:=by
 cases l with
 | nil=>simp at h
 | cons b l=>
  have e:b≠48:=fun e=>h0 (by simp[e])
  simp[strip,e]
theorem strip_nil{l:List UInt8}(h:¬ 0<l.length):strip l=l:=by
 cases l with
 | nil=>rfl
 | cons b l=>simp at h
theorem lead_digits:∀ (l:List UInt8),Digits (l.take (lead isD l))
 | []=>by intro b hb;simp at hb
 | c :: l=>by
  rw[lead_cons]
  by_cases h:isD c.toNat=true
  ·rw[if_pos h,List.take_succ_cons]
   intro b hb
   rcases List.mem_cons.mp hb with rfl|hb
   ·unfold isD at h;simp at h;omega
   ·exact lead_digits l b hb
  ·rw[if_neg h];intro b hb;simp at hb
theorem verC_round(a b:List UInt8)(i j:Nat)(hi:i=lead isNo a)(hj:j=lead isNo b):
 verC a b=if wordC (a.take i) (b.take j)=0 then
  (if numC ((a.drop i).take (lead isD (a.drop i))) ((b.drop j).take (lead isD (b.drop j)))=0 then
    verC ((a.drop i).drop (lead isD (a.drop i))) ((b.drop j).drop (lead isD (b.drop j)))
   else numC ((a.drop i).take (lead isD (a.drop i))) ((b.drop j).take (lead isD (b.drop j))))
  else wordC (a.take i) (b.take j):=by
 subst hi hj
 rw[numC_eq (lead_digits _) (lead_digits _)]
 unfold verC wordC
 rw[lexC_row1,lexC_row2]
 unfold row
 rw[lexC_words _ _ _ _ (ranks_ne _) (ranks_ne _)]
 simp only[lexC]
end M
end Go.Proofs.YtgnfknjopafngabGreatDoor
namespace Go.Proofs.YtgnfknjopafngabGreatDoor
open Go.RowKit
theorem isDigit_any(c:Int)(w:World):
 Calls Tryz.prog 59 #[.int .u8 c] w fun e w'=>e=.returned (.bool (M.isD c))/\w'=w:=by
 by_cases h1:48<=c
 ·by_cases h2:c<=57
  ·go_enter Tryz.func59,Tryz.ntmps59
   go_wp2
   go_ret
   exact⟨ret_bool (M.isD_t h1 h2).symm,rfl⟩
  ·go_enter Tryz.func59,Tryz.ntmps59
   go_wp2
   go_ret
   exact⟨ret_bool (M.isD_f2 h2).symm,rfl⟩
 ·go_enter Tryz.func59,Tryz.ntmps59
  go_wp2
  go_ret
  exact⟨ret_bool (M.isD_f1 h1).symm,rfl⟩
theorem isSmall_any(c:Int)(w:World):
 Calls Tryz.prog 201 #[.int .u8 c] w fun e w'=>e=.returned (.bool (M.isSm c))/\w'=w:=by
 by_cases h1:97<=c
 ·by_cases h2:c<=122
  ·go_enter Tryz.func201,Tryz.ntmps201
   go_wp2
   go_ret
   exact⟨ret_bool (by unfold M.isSm;simp;omega),rfl⟩
  ·go_enter Tryz.func201,Tryz.ntmps201
   go_wp2
   go_ret
   exact⟨ret_bool (by unfold M.isSm;simp;omega),rfl⟩
 ·go_enter Tryz.func201,Tryz.ntmps201
  go_wp2
  go_ret
  exact⟨ret_bool (by unfold M.isSm;simp;omega),rfl⟩
theorem isLetter_any(c:Int)(w:World):
 Calls Tryz.prog 149 #[.int .u8 c] w fun e w'=>e=.returned (.bool (M.isLt c))/\w'=w:=by
 by_cases h0:M.isSm c=true
 ·go_enter Tryz.func149,Tryz.ntmps149
  go_wp2_with (go_at_call 201;refine(isSmall_any _ _).mono ?_;rintro e w' ⟨rfl,rfl⟩)
  go_ret
  exact⟨ret_bool (by unfold M.isSm at h0;unfold M.isLt;simp at h0 ⊢;omega),rfl⟩
 ·have h0':M.isSm c=false:=by simpa using h0
  have hn:¬ (97<=c/\c<=122):=by unfold M.isSm at h0;simpa using h0
  have HN:=hid hn
  clear hn h0
  by_cases h1:65<=c
  ·by_cases h2:c<=90
   ·go_enter Tryz.func149,Tryz.ntmps149
    go_wp2_with (go_at_call 201;refine(isSmall_any _ _).mono ?_;rintro e w' ⟨rfl,rfl⟩)
    go_ret
    exact⟨ret_bool (by have:=HN.out;unfold M.isLt;simp;omega),rfl⟩
   ·go_enter Tryz.func149,Tryz.ntmps149
    go_wp2_with (go_at_call 201;refine(isSmall_any _ _).mono ?_;rintro e w' ⟨rfl,rfl⟩)
    go_ret
    exact⟨ret_bool (by have:=HN.out;unfold M.isLt;rw[decide_eq_decide];omega),rfl⟩
  ·go_enter Tryz.func149,Tryz.ntmps149
   go_wp2_with (go_at_call 201;refine(isSmall_any _ _).mono ?_;rintro e w' ⟨rfl,rfl⟩)
   go_ret
   exact⟨ret_bool (by have:=HN.out;unfold M.isLt;exact(decide_eq_false (by omega)).symm),rfl⟩
theorem lead_any(f:FuncId)(p:Int->Bool)(he:∀ args w,(callFunc f args).run Tryz.prog w=.ok (.enter f args) w)
 (hk:∀ c w,Calls Tryz.prog f #[.int .u8 c] w fun e w'=>e=.returned (.bool (p c))/\w'=w) (s:ByteArray) (w:World) (hs:s.size<=maxLen):
 Calls Tryz.prog 56 #[.string s,.func (.func f) #[] #[]] w fun e w'=>e=.returned (.int .i64 (M.lead p s.data.toList))/\w'=w:=by
 unfold maxLen at hs
 go_enter Tryz.func56,Tryz.ntmps56
 go_wp2
 go_loop [5] (fun i=>∃ k:Nat,k<=s.size/\i=.int .i64 k/\∀ j (h:j<s.data.toList.length),j<k->p (s.data.toList[j]).toNat=true) (fun i=>s.size-(intOf i).toNat)
 case atStart=>exact⟨0,Nat.zero_le _,rfl,fun j _ h=>by omega⟩
 case round=>
  obtain⟨k,hk1,rfl,ha⟩:=hrel
  have HA:=hid ha
  clear ha
  by_cases hlt:k<s.size
  ·by_cases hp:p s[k].toNat=true
   ·go_wp2_with (go_at_fn f;refine(hk _ _).mono ?_;rintro e w' ⟨rfl,rfl⟩)
    go_round
    case rel=>
     refine⟨k+1,by omega,by go_num,fun j hj hjk=>?_⟩
     by_cases hjk':j<k
     ·exact HA.out j hj hjk'
     ·obtain rfl:j=k:=by omega
      exact hp
    case measure=>simp[intOf];omega
   ·have hp':p s[k].toNat=false:=by simpa using hp
    have HP:Hid (p s[k].toNat=false):=hp'
    clear hp
    go_wp2_with (go_at_fn f;refine(hk _ _).mono ?_;rintro e w' ⟨rfl,rfl⟩)
    go_ret
    refine⟨ret_int ?_,rfl⟩
    rw[M.lead_eq HA.out (by simpa using hk1) (fun h=>HP.out)]
  ·go_wp2
   go_ret
   refine⟨ret_int ?_,rfl⟩
   rw[M.lead_eq HA.out (by simpa using hk1) (fun h=>by simp at h;omega)]
def Thrown(e:Ending):Prop:=e=.panicked [{ v:=.iface 94 (.int .i64 1),recovered:=false }]
theorem must_ok(w:World):Calls Tryz.prog 62 #[.bool true] w fun e w'=>e=.returned (.tuple #[])/\w'=w:=by
 go_enter Tryz.func62,Tryz.ntmps62
 go_wp2
 exact⟨rfl,.tuple #[],by simp[results,go_sem,Tryz.results62],rfl,rfl⟩
theorem must_no(w:World):Calls Tryz.prog 62 #[.bool false] w fun e w'=>Thrown e/\w'=w:=by
 go_enter Tryz.func62,Tryz.ntmps62
 go_wp2
 exact⟨rfl,rfl,rfl⟩
namespace M
theorem lead_all(p:Int->Bool):∀ (l:List UInt8),lead p l=l.length↔l.all (fun b=>p b.toNat)=true
 | []=>by simp[lead]
 | b :: l=>by
  have ih:=lead_all p l
  rw[lead_cons]
  by_cases h:p b.toNat=true
  ·rw[if_pos h];simp[h] at ih ⊢;exact ih
  ·rw[if_neg h];simp[h]
theorem made_f1(p:Int->Bool)(m:Nat)(l:List UInt8)(h:l.length=0):made p 1 m l=false:=by unfold made;simp[h]
theorem made_f2(p:Int->Bool)(m:Nat)(l:List UInt8)(h:¬ l.length<=m):made p 1 m l=false:=by unfold made;simp[h]
theorem made_is(p:Int->Bool)(m:Nat)(l:List UInt8)(h0:l.length≠0)(h:l.length<=m):made p 1 m l=decide (lead p l=l.length):=by
 unfold made
 rw[decide_eq_true (show 1<=l.length by omega),decide_eq_true h]
 rw[Bool.and_true,Bool.and_true,Bool.eq_iff_iff,decide_eq_true_iff,lead_all]
end M
def madeK(p:Int->Bool)(m:Nat)(s:ByteArray):Bool:=M.made p 1 m s.data.toList
theorem isMadeOf_any(f:FuncId)(p:Int->Bool)(he:∀ args w,(callFunc f args).run Tryz.prog w=.ok (.enter f args) w)
 (hk:∀ c w,Calls Tryz.prog f #[.int .u8 c] w fun e w'=>e=.returned (.bool (p c))/\w'=w) (s:ByteArray) (m:Nat) (w:World) (hs:s.size<=1000000):
 Calls Tryz.prog 211 #[.string s,.int .i64 m,.func (.func f) #[] #[]] w fun e w'=>e=.returned (.bool (madeK p m s))/\w'=w:=by
 have hle:=M.lead_le p s.data.toList
 rw[Array.length_toList,ByteArray.size_data] at hle
 have HL0:s.data.toList.length=s.size:=by simp
 obtain⟨n,hn⟩:∃ n,n=M.lead p s.data.toList:=⟨_,rfl⟩
 have cL:=fun w=>lead_any f p he hk s w (by unfold maxLen;omega)
 rw[<-hn] at cL hle
 by_cases h0:s.toList.isEmpty=true
 ·have HB:Hid (madeK p m s=false):=M.made_f1 _ _ _ (by rw[Lib.toList_data,List.isEmpty_iff] at h0;rw[h0];rfl)
  clear hn HL0
  go_enter Tryz.func211,Tryz.ntmps211
  go_wp2_with fail
  go_ret
  exact⟨ret_bool HB.out.symm,rfl⟩
 ·have h0':s.toList.isEmpty=false:=by simpa using h0
  have hl0:s.size≠0:=by intro e;apply h0;rw[Lib.toList_data,List.isEmpty_iff_length_eq_zero];simpa using e
  by_cases h1:s.size<=m
  ·have h1':(s.size:Int)<=m:=by omega
   have HB:Hid (madeK p m s=decide ((n:Int)=s.size)):=by
    show _ = _
    unfold madeK
    rw[M.made_is _ _ _ (by rw[HL0];exact hl0) (by rw[HL0];exact h1),<-hn,HL0]
    rw[decide_eq_decide];omega
   clear hn HL0 h0
   by_cases h2:(n:Int)=s.size
   ·have h2':((n:Int) == s.size)=true:=by simpa using h2
    have HB2:Hid (madeK p m s=true):=by show _ = _;rw[HB.out];simpa using h2
    clear h2
    go_enter Tryz.func211,Tryz.ntmps211
    go_wp2_with (go_at_call 56;refine(cL _).mono ?_;rintro e w' ⟨rfl,rfl⟩)
    go_ret
    exact⟨ret_bool HB2.out.symm,rfl⟩
   ·have h2':((n:Int) == s.size)=false:=by simpa using h2
    have HB2:Hid (madeK p m s=false):=by show _ = _;rw[HB.out];simpa using h2
    clear h2
    go_enter Tryz.func211,Tryz.ntmps211
    go_wp2_with (go_at_call 56;refine(cL _).mono ?_;rintro e w' ⟨rfl,rfl⟩)
    go_ret
    exact⟨ret_bool HB2.out.symm,rfl⟩
  ·have h1':¬ (s.size:Int)<=m:=by omega
   have HB:Hid (madeK p m s=false):=M.made_f2 _ _ _ (by rw[HL0];exact h1)
   clear hn HL0 h0
   go_enter Tryz.func211,Tryz.ntmps211
   go_wp2_with fail
   go_ret
   exact⟨ret_bool HB.out.symm,rfl⟩
theorem nameK_any(c:Int)(w:World):
 Calls Tryz.prog 212 #[.int .u8 c] w fun e w'=>e=.returned (.bool (M.nameP c))/\w'=w:=by
 by_cases h1:M.isSm c=true
 ·have HE:Hid (M.nameP c=true):=by show _ = _;unfold M.isSm at h1;unfold M.nameP;simp at h1 ⊢;omega
  go_enter Tryz.func212,Tryz.ntmps212
  go_wp2_with (first|(go_at_call 201;refine(isSmall_any _ _).mono ?_;rintro e w' ⟨rfl,rfl⟩)|(go_at_call 59;refine(isDigit_any _ _).mono ?_;rintro e w' ⟨rfl,rfl⟩))
  go_ret
  exact⟨ret_bool HE.out.symm,rfl⟩
 ·have h1':M.isSm c=false:=by simpa using h1
  by_cases h2:M.isD c=true
  ·have HE:Hid (M.nameP c=true):=by show _ = _;unfold M.isD at h2;unfold M.nameP;simp at h2 ⊢;omega
   clear h1
   go_enter Tryz.func212,Tryz.ntmps212
   go_wp2_with (first|(go_at_call 201;refine(isSmall_any _ _).mono ?_;rintro e w' ⟨rfl,rfl⟩)|(go_at_call 59;refine(isDigit_any _ _).mono ?_;rintro e w' ⟨rfl,rfl⟩))
   go_ret
   exact⟨ret_bool HE.out.symm,rfl⟩
  ·have h2':M.isD c=false:=by simpa using h2
   have HE:Hid (M.nameP c=(c == 45)):=by
    show _ = _
    unfold M.isSm at h1;unfold M.isD at h2;unfold M.nameP
    simp only[decide_eq_true_eq] at h1 h2
    rw[Bool.eq_iff_iff,decide_eq_true_eq,beq_iff_eq]
    omega
   clear h1 h2
   go_enter Tryz.func212,Tryz.ntmps212
   go_wp2_with (first|(go_at_call 201;refine(isSmall_any _ _).mono ?_;rintro e w' ⟨rfl,rfl⟩)|(go_at_call 59;refine(isDigit_any _ _).mono ?_;rintro e w' ⟨rfl,rfl⟩))
   go_ret
   exact⟨ret_bool HE.out.symm,rfl⟩
def Gives(b:Bool)(v:Value)(e:Ending):Prop:=if b=true then e=.returned v else Thrown e
theorem gives_t{b:Bool}{v:Value}{e:Ending}(hb:b=true)(h:e=.returned v):Gives b v e:=by unfold Gives;rw[if_pos hb];exact h
theorem gives_f{b:Bool}{v:Value}{e:Ending}(hb:b=false)(h:Thrown e):Gives b v e:=by unfold Gives;rw[if_neg (by rw[hb];decide)];exact h
def isNameK(s:ByteArray):Bool:=M.isNameS s.data.toList
def isVerK(s:ByteArray):Bool:=M.isVerS s.data.toList
theorem head_get(p:Int->Bool)(s:ByteArray)(h:0<s.size):M.headP p s.data.toList=p s[0].toNat:=by
 cases s with
 | mk a=>
  cases a with
  | mk l=>
   cases l with
   | nil=>exact absurd h (by decide)
   | cons b l=>rfl
theorem made_pos{p:Int->Bool}{m:Nat}{s:ByteArray}(h:madeK p m s=true):0<s.size:=by
 unfold madeK M.made at h
 simp only[Bool.and_eq_true,decide_eq_true_eq,Array.length_toList,ByteArray.size_data] at h
 omega
theorem isNameK_is(s:ByteArray):isNameK s=(madeK M.nameP 12 s && M.headP M.isSm s.data.toList):=rfl
theorem isVerK_is(s:ByteArray):isVerK s=(madeK M.verP 16 s && M.headP M.isD s.data.toList):=rfl
theorem readName_any(s:ByteArray)(w:World)(hs:s.size<=1000000):
 Calls Tryz.prog 161 #[.string s] w fun e w'=>Gives (isNameK s) (.string s) e/\w'=w:=by
 have cM:=fun w=>isMadeOf_any 212 M.nameP (enters_of Tryz.func212 (by kernel_rfl) rfl) nameK_any s 12 w hs
 by_cases hm:madeK M.nameP 12 s=true
 ·have h0:=made_pos hm
  have cY:=must_ok
  have cN:=must_no
  have hh:=head_get M.isSm s h0
  by_cases hd:M.isSm s[0].toNat=true
  ·have HE:Hid (isNameK s=true):=by show _ = _;rw[isNameK_is,hm,hh,hd];rfl
   clear hh cN
   go_enter Tryz.func161,Tryz.ntmps161
   go_wp2_with (first|(go_at_call 211;refine(cM _).mono ?_;rintro e w' ⟨rfl,rfl⟩)|(go_at_call 62;refine(cY _).mono ?_;rintro e w' ⟨rfl,rfl⟩)|(go_at_call 201;refine(isSmall_any _ _).mono ?_;rintro e w' ⟨rfl,rfl⟩))
   go_ret
   exact⟨gives_t HE.out rfl,rfl⟩
  ·have hd':M.isSm s[0].toNat=false:=by simpa using hd
   have HE:Hid (isNameK s=false):=by show _ = _;rw[isNameK_is,hm,hh,hd'];rfl
   clear hh hd
   go_enter Tryz.func161,Tryz.ntmps161
   go_wp2_with (first|(go_at_call 211;refine(cM _).mono ?_;rintro e w' ⟨rfl,rfl⟩)|(go_at_call 62;refine(cY _).mono ?_;rintro e w' ⟨rfl,rfl⟩)|(go_at_call 62;refine(cN _).mono ?_;rintro e w' ⟨rfl,rfl⟩)|(go_at_call 201;refine(isSmall_any _ _).mono ?_;rintro e w' ⟨rfl,rfl⟩))
   exact⟨rfl,gives_f HE.out rfl,rfl⟩
 ·have hm':madeK M.nameP 12 s=false:=by simpa using hm
  have HE:Hid (isNameK s=false):=by show _ = _;rw[isNameK_is,hm'];rfl
  have cN:=must_no
  clear hm
  go_enter Tryz.func161,Tryz.ntmps161
  go_wp2_with (first|(go_at_call 211;refine(cM _).mono ?_;rintro e w' ⟨rfl,rfl⟩)|(go_at_call 62;refine(cN _).mono ?_;rintro e w' ⟨rfl,rfl⟩))
  exact⟨rfl,gives_f HE.out rfl,rfl⟩
def markP(c:Int):Bool:=decide (c=46\/c=43\/c=45\/c=126)
theorem mark_any(c:Int)(w:World):
 Calls Tryz.prog 214 #[.int .u8 c] w fun e w'=>e=.returned (.bool (markP c))/\w'=w:=by
 have HE:Hid (markP c=(c == 46 || c == 43 || c == 45 || c == 126)):=by
  show _ = _
  unfold markP
  rw[Bool.eq_iff_iff]
  simp[or_assoc]
 by_cases h1:(c == 46)=true
 ·have HE2:Hid (markP c=true):=by show _ = _;rw[HE.out,h1];rfl
  go_enter Tryz.func214,Tryz.ntmps214
  go_wp2
  go_ret
  exact⟨ret_bool HE2.out.symm,rfl⟩
 ·replace h1:(c == 46)=false:=by simpa using h1
  by_cases h2:(c == 43)=true
  ·have HE2:Hid (markP c=true):=by show _ = _;rw[HE.out,h1,h2];rfl
   go_enter Tryz.func214,Tryz.ntmps214
   go_wp2
   go_ret
   exact⟨ret_bool HE2.out.symm,rfl⟩
  ·replace h2:(c == 43)=false:=by simpa using h2
   by_cases h3:(c == 45)=true
   ·have HE2:Hid (markP c=true):=by show _ = _;rw[HE.out,h1,h2,h3];rfl
    go_enter Tryz.func214,Tryz.ntmps214
    go_wp2
    go_ret
    exact⟨ret_bool HE2.out.symm,rfl⟩
   ·replace h3:(c == 45)=false:=by simpa using h3
    have HE2:Hid (markP c=(c == 126)):=by show _ = _;rw[HE.out,h1,h2,h3];rfl
    go_enter Tryz.func214,Tryz.ntmps214
    go_wp2
    go_ret
    exact⟨ret_bool HE2.out.symm,rfl⟩
theorem verP_is(c:Int):M.verP c=(M.isLt c || M.isD c || markP c):=by
 unfold M.verP M.isLt M.isD markP
 rw[Bool.eq_iff_iff]
 simp only[Bool.or_eq_true,decide_eq_true_eq]
 omega
theorem verK_any(c:Int)(w:World):
 Calls Tryz.prog 213 #[.int .u8 c] w fun e w'=>e=.returned (.bool (M.verP c))/\w'=w:=by
 have cL:=fun w=>isLetter_any c w
 have cD:=fun w=>isDigit_any c w
 have cK:=fun w=>mark_any c w
 have HE:Hid (M.verP c=(M.isLt c || M.isD c || markP c)):=verP_is c
 by_cases h1:M.isLt c=true
 ·have HE2:Hid (M.verP c=true):=by show _ = _;rw[HE.out,h1];rfl
  go_enter Tryz.func213,Tryz.ntmps213
  go_wp2_with (first|(go_at_call 149;refine(cL _).mono ?_;rintro e w' ⟨rfl,rfl⟩))
  go_ret
  exact⟨ret_bool HE2.out.symm,rfl⟩
 ·replace h1:M.isLt c=false:=by simpa using h1
  by_cases h2:M.isD c=true
  ·have HE2:Hid (M.verP c=true):=by show _ = _;rw[HE.out,h1,h2];rfl
   go_enter Tryz.func213,Tryz.ntmps213
   go_wp2_with (first|(go_at_call 149;refine(cL _).mono ?_;rintro e w' ⟨rfl,rfl⟩)|(go_at_call 59;refine(cD _).mono ?_;rintro e w' ⟨rfl,rfl⟩))
   go_ret
   exact⟨ret_bool HE2.out.symm,rfl⟩
  ·replace h2:M.isD c=false:=by simpa using h2
   have HE2:Hid (M.verP c=markP c):=by show _ = _;rw[HE.out,h1,h2];rfl
   go_enter Tryz.func213,Tryz.ntmps213
   go_wp2_with (first|(go_at_call 149;refine(cL _).mono ?_;rintro e w' ⟨rfl,rfl⟩)|(go_at_call 59;refine(cD _).mono ?_;rintro e w' ⟨rfl,rfl⟩)|(go_at_call 214;refine(cK _).mono ?_;rintro e w' ⟨rfl,rfl⟩))
   go_ret
   exact⟨ret_bool HE2.out.symm,rfl⟩
theorem readVersion_any(s:ByteArray)(w:World)(hs:s.size<=1000000):
 Calls Tryz.prog 162 #[.string s] w fun e w'=>Gives (isVerK s) (.string s) e/\w'=w:=by
 have cM:=fun w=>isMadeOf_any 213 M.verP (enters_of Tryz.func213 (by kernel_rfl) rfl) verK_any s 16 w hs
 by_cases hm:madeK M.verP 16 s=true
 ·have h0:=made_pos hm
  have cY:=must_ok
  have cN:=must_no
  have hh:=head_get M.isD s h0
  by_cases hd:M.isD s[0].toNat=true
  ·have HE:Hid (isVerK s=true):=by show _ = _;rw[isVerK_is,hm,hh,hd];rfl
   clear hh cN
   go_enter Tryz.func162,Tryz.ntmps162
   go_wp2_with (first|(go_at_call 211;refine(cM _).mono ?_;rintro e w' ⟨rfl,rfl⟩)|(go_at_call 62;refine(cY _).mono ?_;rintro e w' ⟨rfl,rfl⟩)|(go_at_call 59;refine(isDigit_any _ _).mono ?_;rintro e w' ⟨rfl,rfl⟩))
   go_ret
   exact⟨gives_t HE.out rfl,rfl⟩
  ·have hd':M.isD s[0].toNat=false:=by simpa using hd
   have HE:Hid (isVerK s=false):=by show _ = _;rw[isVerK_is,hm,hh,hd'];rfl
   clear hh hd
   go_enter Tryz.func162,Tryz.ntmps162
   go_wp2_with (first|(go_at_call 211;refine(cM _).mono ?_;rintro e w' ⟨rfl,rfl⟩)|(go_at_call 62;refine(cY _).mono ?_;rintro e w' ⟨rfl,rfl⟩)|(go_at_call 62;refine(cN _).mono ?_;rintro e w' ⟨rfl,rfl⟩)|(go_at_call 59;refine(isDigit_any _ _).mono ?_;rintro e w' ⟨rfl,rfl⟩))
   exact⟨rfl,gives_f HE.out rfl,rfl⟩
 ·have hm':madeK M.verP 16 s=false:=by simpa using hm
  have HE:Hid (isVerK s=false):=by show _ = _;rw[isVerK_is,hm'];rfl
  have cN:=must_no
  clear hm
  go_enter Tryz.func162,Tryz.ntmps162
  go_wp2_with (first|(go_at_call 211;refine(cM _).mono ?_;rintro e w' ⟨rfl,rfl⟩)|(go_at_call 62;refine(cN _).mono ?_;rintro e w' ⟨rfl,rfl⟩))
  exact⟨rfl,gives_f HE.out rfl,rfl⟩
theorem partP_is(c:Int):M.partP c=(M.isSm c || M.isD c || c == 46 || c == 95):=by
 unfold M.partP M.isSm M.isD
 rw[Bool.eq_iff_iff]
 simp only[Bool.or_eq_true,decide_eq_true_eq,beq_iff_eq]
 omega
theorem partK_any(c:Int)(w:World):
 Calls Tryz.prog 220 #[.int .u8 c] w fun e w'=>e=.returned (.bool (M.partP c))/\w'=w:=by
 have cS:=fun w=>isSmall_any c w
 have cD:=fun w=>isDigit_any c w
 have HE:Hid (M.partP c=(M.isSm c || M.isD c || c == 46 || c == 95)):=partP_is c
 by_cases h1:M.isSm c=true
 ·have HE2:Hid (M.partP c=true):=by show _ = _;rw[HE.out,h1];rfl
  go_enter Tryz.func220,Tryz.ntmps220
  go_wp2_with (go_at_call 201;refine(cS _).mono ?_;rintro e w' ⟨rfl,rfl⟩)
  go_ret
  exact⟨ret_bool HE2.out.symm,rfl⟩
 ·replace h1:M.isSm c=false:=by simpa using h1
  by_cases h2:M.isD c=true
  ·have HE2:Hid (M.partP c=true):=by show _ = _;rw[HE.out,h1,h2];rfl
   go_enter Tryz.func220,Tryz.ntmps220
   go_wp2_with (first|(go_at_call 201;refine(cS _).mono ?_;rintro e w' ⟨rfl,rfl⟩)|(go_at_call 59;refine(cD _).mono ?_;rintro e w' ⟨rfl,rfl⟩))
   go_ret
   exact⟨ret_bool HE2.out.symm,rfl⟩
  ·replace h2:M.isD c=false:=by simpa using h2
   by_cases h3:(c == 46)=true
   ·have HE2:Hid (M.partP c=true):=by show _ = _;rw[HE.out,h1,h2,h3];rfl
    go_enter Tryz.func220,Tryz.ntmps220
    go_wp2_with (first|(go_at_call 201;refine(cS _).mono ?_;rintro e w' ⟨rfl,rfl⟩)|(go_at_call 59;refine(cD _).mono ?_;rintro e w' ⟨rfl,rfl⟩))
    go_ret
    exact⟨ret_bool HE2.out.symm,rfl⟩
   ·replace h3:(c == 46)=false:=by simpa using h3
    have HE2:Hid (M.partP c=(c == 95)):=by show _ = _;rw[HE.out,h1,h2,h3];rfl
    go_enter Tryz.func220,Tryz.ntmps220
    go_wp2_with (first|(go_at_call 201;refine(cS _).mono ?_;rintro e w' ⟨rfl,rfl⟩)|(go_at_call 59;refine(cD _).mono ?_;rintro e w' ⟨rfl,rfl⟩))
    go_ret
    exact⟨ret_bool HE2.out.symm,rfl⟩
def isPartB(s:ByteArray):Bool:=M.made M.partP 1 8 s.data.toList && !(s.data.toList == [46]) && !(s.data.toList == [46,46])
theorem isPartB_is(s:ByteArray):isPartB s=(madeK M.partP 8 s && !(s.toList == [46]) && !(s.toList == [46,46])):=by rw[Lib.toList_data];rfl
theorem readPart_any(s:ByteArray)(w:World)(hs:s.size<=1000000):
 Calls Tryz.prog 168 #[.string s] w fun e w'=>Gives (isPartB s) (.string s) e/\w'=w:=by
 have cM:=fun w=>isMadeOf_any 220 M.partP (enters_of Tryz.func220 (by kernel_rfl) rfl) partK_any s 8 w hs
 have HI:Hid (isPartB s=(madeK M.partP 8 s && !(s.toList == [46]) && !(s.toList == [46,46]))):=isPartB_is s
 by_cases hm:madeK M.partP 8 s=true
 ·have cY:=must_ok
  have cN:=must_no
  by_cases h1:(s.toList == [46])=true
  ·have HE:Hid (isPartB s=false):=by show _ = _;rw[HI.out,hm,h1];rfl
   go_enter Tryz.func168,Tryz.ntmps168
   go_wp2_with (first|(go_at_call 211;refine(cM _).mono ?_;rintro e w' ⟨rfl,rfl⟩)|(go_at_call 62;refine(cY _).mono ?_;rintro e w' ⟨rfl,rfl⟩)|(go_at_call 62;refine(cN _).mono ?_;rintro e w' ⟨rfl,rfl⟩))
   exact⟨rfl,gives_f HE.out rfl,rfl⟩
  ·replace h1:(s.toList == [46])=false:=by simpa using h1
   by_cases h2:(s.toList == [46,46])=true
   ·have HE:Hid (isPartB s=false):=by show _ = _;rw[HI.out,hm,h1,h2];rfl
    go_enter Tryz.func168,Tryz.ntmps168
    go_wp2_with (first|(go_at_call 211;refine(cM _).mono ?_;rintro e w' ⟨rfl,rfl⟩)|(go_at_call 62;refine(cY _).mono ?_;rintro e w' ⟨rfl,rfl⟩)|(go_at_call 62;refine(cN _).mono ?_;rintro e w' ⟨rfl,rfl⟩))
    exact⟨rfl,gives_f HE.out rfl,rfl⟩
   ·replace h2:(s.toList == [46,46])=false:=by simpa using h2
    have HE:Hid (isPartB s=true):=by show _ = _;rw[HI.out,hm,h1,h2];rfl
    clear cN
    go_enter Tryz.func168,Tryz.ntmps168
    go_wp2_with (first|(go_at_call 211;refine(cM _).mono ?_;rintro e w' ⟨rfl,rfl⟩)|(go_at_call 62;refine(cY _).mono ?_;rintro e w' ⟨rfl,rfl⟩))
    go_ret
    exact⟨gives_t HE.out rfl,rfl⟩
 ·replace hm:madeK M.partP 8 s=false:=by simpa using hm
  have HE:Hid (isPartB s=false):=by show _ = _;rw[HI.out,hm];rfl
  have cN:=must_no
  go_enter Tryz.func168,Tryz.ntmps168
  go_wp2_with (first|(go_at_call 211;refine(cM _).mono ?_;rintro e w' ⟨rfl,rfl⟩)|(go_at_call 62;refine(cN _).mono ?_;rintro e w' ⟨rfl,rfl⟩))
  exact⟨rfl,gives_f HE.out rfl,rfl⟩
def signB(s:ByteArray):Bool:=s.toList == [60,60] || s.toList == [60,61] || s.toList == [61] || s.toList == [62,61] || s.toList == [62,62]
theorem isSign_any(s:ByteArray)(w:World):
 Calls Tryz.prog 216 #[.string s] w fun e w'=>e=.returned (.bool (signB s))/\w'=w:=by
 have HE:Hid (signB s=(s.toList == [60,60] || s.toList == [60,61] || s.toList == [61] || s.toList == [62,61] || s.toList == [62,62])):=rfl
 by_cases h1:(s.toList == [60,60])=true
 ·have HE2:Hid (signB s=true):=by show _ = _;rw[HE.out,h1];rfl
  go_enter Tryz.func216,Tryz.ntmps216
  go_wp2
  go_ret
  exact⟨ret_bool HE2.out.symm,rfl⟩
 replace h1:(s.toList == [60,60])=false:=by simpa using h1
 by_cases h2:(s.toList == [60,61])=true
 ·have HE2:Hid (signB s=true):=by show _ = _;rw[HE.out,h1,h2];rfl
  go_enter Tryz.func216,Tryz.ntmps216
  go_wp2
  go_ret
  exact⟨ret_bool HE2.out.symm,rfl⟩
 replace h2:(s.toList == [60,61])=false:=by simpa using h2
 by_cases h3:(s.toList == [61])=true
 ·have HE2:Hid (signB s=true):=by show _ = _;rw[HE.out,h1,h2,h3];rfl
  go_enter Tryz.func216,Tryz.ntmps216
  go_wp2
  go_ret
  exact⟨ret_bool HE2.out.symm,rfl⟩
 replace h3:(s.toList == [61])=false:=by simpa using h3
 by_cases h4:(s.toList == [62,61])=true
 ·have HE2:Hid (signB s=true):=by show _ = _;rw[HE.out,h1,h2,h3,h4];rfl
  go_enter Tryz.func216,Tryz.ntmps216
  go_wp2
  go_ret
  exact⟨ret_bool HE2.out.symm,rfl⟩
 replace h4:(s.toList == [62,61])=false:=by simpa using h4
 by_cases h5:(s.toList == [62,62])=true
 ·have HE2:Hid (signB s=true):=by show _ = _;rw[HE.out,h1,h2,h3,h4,h5];rfl
  go_enter Tryz.func216,Tryz.ntmps216
  go_wp2
  go_ret
  exact⟨ret_bool HE2.out.symm,rfl⟩
 replace h5:(s.toList == [62,62])=false:=by simpa using h5
 have HE2:Hid (signB s=false):=by show _ = _;rw[HE.out,h1,h2,h3,h4,h5];rfl
 go_enter Tryz.func216,Tryz.ntmps216
 go_wp2
 go_ret
 exact⟨ret_bool HE2.out.symm,rfl⟩
end Go.Proofs.YtgnfknjopafngabGreatDoor
