import Derived.Test.YtgnfknjopafngabGreatDoorKnj
set_option maxRecDepth 100000
set_option maxHeartbeats 4000000
namespace Go.Proofs.YtgnfknjopafngabGreatDoor
open Go.RowKit Go.Maps
def PkShape(v:Value):Prop:=∃ a b x1 n1 c1 x2 n2 c2 x3 n3 c3,v=.agg #[.string a,.string b,.slice x1 n1 c1,.slice x2 n2 c2,.slice x3 n3 c3]
theorem PkVal.shape{w:World}{p:M.Pk}{v:Value}(h:PkVal w p v):PkShape v:=by
 obtain⟨nv,bv,fv,rfl,h1,h2,h3⟩:=h
 obtain⟨_,_,rfl⟩:=h1.form
 obtain⟨_,_,rfl⟩:=h2.form
 obtain⟨_,_,rfl⟩:=h3.form
 exact⟨_,_,_,_,_,_,_,_,_,_,_,rfl⟩
theorem put_new{l:List KV}{k:List UInt8}{v:Value}(h:∀ p∈l,p.1≠k):(putK l k v).Perm (l++[(k,v)]):=by
 unfold putK
 rw[List.filter_eq_self.2 (fun p hp=>by simpa using h p hp)]
 exact List.perm_append_comm (l₁:=[(k,v)]) (l₂:=l)
def Apart2(l m:List KV):Prop:=∀ p∈l,∀ q∈m,p.1≠q.1
theorem wpList_next_pk{P:Program}{K:TypeId}{w:World}{ops:Array Oper}{rest:List Oper}{o:Oper}{a:Act}{Q:Exit->Act->World->Prop}(hg:o.guard=none)(it:Operand)(hop:o.op=Op.next it false)(hk:P.underlying K=some .string)(b r:Nat)(l todo:List KV)(cnt:Nat)(hit:a.eval it=.pointer (some ⟨r,0,none⟩))(h:Ranging P K w b r l todo cnt)(hsh:∀ p∈l,PkShape p.2)
 (hDone:cnt=0->todo=[]->wpList P ops Q rest (a.put o.dst (.tuple #[.bool false])) w)
 (hMore:∀ (s x y:ByteArray) (x1:Option Addr) (n1 c1:Nat) (x2:Option Addr) (n2 c2:Nat) (x3:Option Addr) (n3 c3:Nat) (todo':List KV) (w':World) (cnt':Nat),s.size<=maxLen->todo.Perm ((s.data.toList,.agg #[.string x,.string y,.slice x1 n1 c1,.slice x2 n2 c2,.slice x3 n3 c3]) :: todo')->Ranging P K w' b r l todo' cnt'->cnt'<cnt->w.grownBy w' (some r)->w'.heap.size=w.heap.size->
   (Instr.entry (.pointer (some ⟨r,0,none⟩))).run P w'=.ok (.tuple #[.string s,.agg #[.string x,.string y,.slice x1 n1 c1,.slice x2 n2 c2,.slice x3 n3 c3]]) w'->wpList P ops Q rest (a.put o.dst (.tuple #[.bool true,.string s,.agg #[.string x,.string y,.slice x1 n1 c1,.slice x2 n2 c2,.slice x3 n3 c3]])) w'):
 wpList P ops Q (o :: rest) a w:=by
 have hsub:∀ p∈todo,p∈l:=by
  obtain⟨_,_,_,_,_,_,_,h4⟩:=h
  exact fun p hp=>((h4 p).1 hp).1
 refine wpList_next_str hg it hop hk b r l todo cnt hit h hDone (fun s v todo' w' cnt' h1 h2 h3 h4 h5 h6 h7=>?_)
 obtain⟨x,y,x1,n1,c1,x2,n2,c2,x3,n3,c3,e⟩:=hsh _ (hsub _ (h2.mem_iff.2 (List.mem_cons_self)))
 dsimp only at e
 subst e
 exact hMore s x y x1 n1 c1 x2 n2 c2 x3 n3 c3 todo' w' cnt' h1 h2 h3 h4 h5 h6 h7
theorem copy_any(d s:Nat)(m1 m2:List KV)(w:World)(h1:StrMap Tryz.prog 9 w d m1)(h2:StrMap Tryz.prog 9 w s m2)(hds:d≠s)(hap:Apart2 m1 m2)(hsh:∀ p∈m2,PkShape p.2)(hn:m1.length+m2.length<=1000000):
 Calls Tryz.prog 178 #[.map (some d),.map (some s)] w fun e w'=>e=.returned (.tuple #[])/\StrMap Tryz.prog 9 w' d (m1++m2)/\w.grownBy w' (some d):=by
 have hk2:=h2.keys
 have hd:d<w.heap.size:=h1.lt
 have HAP:=hid hap
 have HSH:=hid hsh
 have HK2:=hid hk2
 clear hap hsh hk2
 go_enter Tryz.func178,Tryz.ntmps178
 go_wp2_with (first|(at_range;refine wpList_range_str rfl _ rfl Tryz.underlying9 setMap s m2 rfl h2 ?_;intro w0 hrg0 hg0 hs0)|go_in)
 go_frame
 have HD0:Hid (StrMap Tryz.prog 9 w0 d m1):=h1.kept hg0 (by simp)
 go_loopw [4,5] (fun _ _ wr=>∃ (todo done:List KV) (cnt:Nat),Ranging Tryz.prog 9 wr s w.heap.size m2 todo cnt/\Hid (StrMap Tryz.prog 9 wr d (m1++done))/\Hid ((done++todo).Perm m2)/\w.grownBy wr (some d)) (fun _ _ wr=>wr.rangeLeft s w.heap.size)
 case atStart=>exact⟨m2,[],_,hrg0,by show StrMap _ _ _ _ _;rw[List.append_nil];exact HD0.out,List.Perm.refl _,hg0.but _⟩
 case round=>
  obtain⟨todo,done,cnt,hrg,HD,HP,hgr⟩:=hrel
  go_wp2_with (first|(at_next;refine wpList_next_pk rfl _ rfl Tryz.underlying9 s w.heap.size m2 todo cnt rfl hrg HSH.out ?_ ?_)|go_in)
  ·intro hc0 ht0
   have HF:Hid (StrMap Tryz.prog 9 wr d (m1++m2)):=by
    have hp:=HP.out
    rw[ht0,List.append_nil] at hp
    exact HD.out.perm (List.Perm.append_left m1 hp)
   clear hc0 ht0
   go_wp2
   go_end0
   exact⟨rfl,HF.out,hgr⟩
  ·intro k x y x1 n1 c1 x2 n2 c2 x3 n3 c3 todo' w' cnt' hks hperm hrg' hlt hg' hs' hen
   have hdr:d≠w.heap.size:=by omega
   have hd':StrMap Tryz.prog 9 w' d (m1++done):=HD.out.kept hg' (fun e=>hdr (Option.some.inj e))
   have hmem:(k.data.toList,Value.agg #[.string x,.string y,.slice x1 n1 c1,.slice x2 n2 c2,.slice x3 n3 c3])∈m2:=HP.out.mem_iff.1 (List.mem_append.2 (.inr (hperm.mem_iff.2 List.mem_cons_self)))
   have hlen:(m1++done).length<maxLen:=by
    have:=HP.out.length_eq
    rw[List.length_append] at this ⊢
    unfold maxLen
    omega
   have HNew:Hid (∀ q∈m1++done,q.1≠k.data.toList):=fun q hq e=>by
    rcases List.mem_append.1 hq with hq|hq
    ·exact HAP.out q hq _ hmem e
    ·have hkk:=HK2.out.perm HP.out.symm
     unfold Keys at hkk
     rw[List.map_append] at hkk
     refine(List.nodup_append.1 hkk).2.2 q.1 (List.mem_map.2 ⟨q,hq,rfl⟩) k.data.toList (List.mem_map.2 ⟨_,hperm.mem_iff.2 List.mem_cons_self,rfl⟩) e
   have HPm:Hid (((done++[(k.data.toList,Value.agg #[.string x,.string y,.slice x1 n1 c1,.slice x2 n2 c2,.slice x3 n3 c3])])++todo').Perm m2):=by
    show List.Perm _ _
    rw[List.append_assoc]
    exact(List.Perm.append_left done hperm.symm).trans HP.out
   have hgw:=hgr.andThen hg' (fun j hj=>.inl (by cases hj;exact Nat.le_refl _))
   clear hperm hmem HP HD hs'
   generalize hW2:w'.alloc (.cells #[.string x,.string y,.slice x1 n1 c1,.slice x2 n2 c2,.slice x3 n3 c3] 87)=W2
   have hga:w'.grownBy W2 none:=by rw[<-hW2];exact World.grownBy_alloc w' _ none
   have hd2:StrMap Tryz.prog 9 W2 d (m1++done):=hd'.kept hga (by simp)
   have hrg2:=hrg'.kept hga (by simp) (by simp)
   have HC:Hid (∀ j u,[Value.string x,.string y,.slice x1 n1 c1,.slice x2 n2 c2,.slice x3 n3 c3][j]? = some u->W2.cell? ⟨w'.heap.size,j,none⟩=some u):=by rw[<-hW2];exact fun j u hu=>new_at w' _ _ j u hu
   have q0:=HC.out 0 _ rfl
   have q1:=HC.out 1 _ rfl
   have q2:=HC.out 2 _ rfl
   have q3:=HC.out 3 _ rfl
   have q4:=HC.out 4 _ rfl
   go_wp2_with (first|(at_mapUpdate;refine wpList_put_str rfl _ _ _ rfl Tryz.underlying9 setMap d (m1++done) rfl hd2 hlen k (.agg #[.string x,.string y,.slice x1 n1 c1,.slice x2 n2 c2,.slice x3 n3 c3]) rfl hks rfl ?_;intro w3 hd3 hg3;go_frame)|go_in)
   have hrg3:=hrg2.kept hg3 (fun e=>hds (Option.some.inj e).symm) (fun e=>hdr (Option.some.inj e).symm)
   have HD3:Hid (StrMap Tryz.prog 9 w3 d (m1++(done++[(k.data.toList,Value.agg #[.string x,.string y,.slice x1 n1 c1,.slice x2 n2 c2,.slice x3 n3 c3])]))):=by
    show StrMap _ _ _ _ _
    rw[<-List.append_assoc]
    exact hd3.perm (put_new HNew.out)
   have hgf:=(hgw.andThen hga (fun j hj=>by cases hj)).andThen hg3 (fun j hj=>.inr (by cases hj;rfl))
   go_roundw
   case rel=>exact⟨todo',_,cnt',hrg3,HD3,HPm,hgf⟩
   case measure=>rw[hrg3.left_eq,hrg.left_eq];exact hlt
theorem kv_set(l:List M.Pk)(f:M.Pk->Value):(l.map fun p=>(p.name,f p)).length=l.length:=by rw[List.length_map]
theorem with_any(b1 b2:Nat)(l k:List M.Pk)(w:World)(h1:SetIn w b1 l)(h2:SetIn w b2 k)(ha:M.Apart (l++k))(hn:l.length+k.length<=1000000):
 Calls Tryz.prog 134 #[.map (some b1),.map (some b2)] w fun e w'=>∃ b,e=.returned (.map (some b))/\SetIn w' b (l++k)/\Below w.heap.size w w':=by
 have hmm:=@run_makeMap Tryz.prog
 obtain⟨f,m1,v1⟩:=h1
 obtain⟨g,m2,v2⟩:=h2
 have l1:=m1.lt
 have l2:=m2.lt
 generalize hW1:w.alloc (.map #[] 0)=W1
 have hga:w.grownBy W1 none:=by rw[<-hW1];exact World.grownBy_alloc w _ none
 have hm0:StrMap Tryz.prog 9 W1 w.heap.size []:=by rw[<-hW1];exact StrMap.made w
 have e1:=m1.kept hga (by simp)
 have e2:=m2.kept hga (by simp)
 have cA:=copy_any w.heap.size b1 [] (l.map fun p=>(p.name,f p)) W1 hm0 e1 (by omega) (fun p hp=>by cases hp) (fun p hp=>by
  obtain⟨q,hq,rfl⟩:=List.mem_map.1 hp
  exact(v1 q hq).shape) (by rw[kv_set];simp;omega)
 have cB:=fun wx (ha1:StrMap Tryz.prog 9 wx w.heap.size (l.map fun p=>(p.name,f p))) (hb1:StrMap Tryz.prog 9 wx b2 (k.map fun p=>(p.name,g p)))=>copy_any w.heap.size b2 (l.map fun p=>(p.name,f p)) (k.map fun p=>(p.name,g p)) wx ha1 hb1 (by omega) (fun p hp q hq e=>by
  obtain⟨x,hx,rfl⟩:=List.mem_map.1 hp
  obtain⟨y,hy,rfl⟩:=List.mem_map.1 hq
  unfold M.Apart at ha
  rw[List.map_append] at ha
  exact(List.nodup_append.1 ha).2.2 x.name (List.mem_map.2 ⟨x,hx,rfl⟩) y.name (List.mem_map.2 ⟨y,hy,rfl⟩) e) (fun p hp=>by
  obtain⟨q,hq,rfl⟩:=List.mem_map.1 hp
  exact(v2 q hq).shape) (by rw[kv_set,kv_set];exact hn)
 have HAp:=hid ha
 have HV1:=hid v1
 have HV2:=hid v2
 clear ha v1 v2 m1 m2
 go_enter Tryz.func134,Tryz.ntmps134
 go_wp2_with fail
 refine cA.mono ?_
 rintro e w2 ⟨rfl,ha2,hg2⟩
 rw[List.nil_append] at ha2
 have hne2:b2≠w.heap.size:=by omega
 have hb2:StrMap Tryz.prog 9 w2 b2 (k.map fun p=>(p.name,g p)):=e2.kept hg2 (fun e=>hne2 (Option.some.inj e))
 clear cA
 go_wp2_with fail
 refine(cB _ ha2 hb2).mono ?_
 rintro e w3 ⟨rfl,ha3,hg3⟩
 have HB:Hid (Below w.heap.size w w3):=(((Below.refl _ w).grown hga ler (fun j hj=>by cases hj)).grown hg2 hga.size (fun j hj=>by cases hj;exact Nat.le_refl _)).grown hg3 (Nat.le_trans hga.size hg2.size) (fun j hj=>by cases hj;exact Nat.le_refl _)
 have HA3:=hid ha3
 clear cB ha3 ha2 hb2 hg2 hg3
 go_wp2
 go_ret
 refine⟨w.heap.size,rfl,⟨fun p=>if p.name∈l.map M.Pk.name then f p else g p,?_,fun p hp=>?_⟩,HB.out⟩
 ·rw[List.map_append]
  have ea:(l.map fun p=>(p.name,if p.name∈l.map M.Pk.name then f p else g p))=l.map fun p=>(p.name,f p):=List.map_congr_left (fun p hp=>by rw[if_pos (List.mem_map.2 ⟨p,hp,rfl⟩)])
  have eb:(k.map fun p=>(p.name,if p.name∈l.map M.Pk.name then f p else g p))=k.map fun p=>(p.name,g p):=List.map_congr_left (fun p hp=>by
   rw[if_neg]
   intro hm
   have h:=HAp.out
   unfold M.Apart at h
   rw[List.map_append] at h
   exact(List.nodup_append.1 h).2.2 p.name hm p.name (List.mem_map.2 ⟨p,hp,rfl⟩) rfl)
  rw[ea,eb]
  exact HA3.out
 ·rcases List.mem_append.1 hp with hp|hp
  ·dsimp only
   rw[if_pos (List.mem_map.2 ⟨p,hp,rfl⟩)]
   exact(HV1.out p hp).below HB.out
  ·dsimp only
   rw[if_neg]
   ·exact(HV2.out p hp).below HB.out
   ·intro hm
    have h:=HAp.out
    unfold M.Apart at h
    rw[List.map_append] at h
    exact(List.nodup_append.1 h).2.2 p.name hm p.name (List.mem_map.2 ⟨p,hp,rfl⟩) rfl
def TxtsIn(w:World)(v:Value)(l:List ByteArray):Prop:=
 (l=[]/\∃ a c,v=.slice a 0 c)\/∃ g off cap,v=.slice (some ⟨g,off,none⟩) l.length cap/\l.length<=cap/\g<w.heap.size/\∀ j (hj:j<l.length),w.cell? ⟨g,off+j,none⟩=some (.string l[j])
theorem TxtsIn.below{w w':World}{v:Value}{l:List ByteArray}(h:TxtsIn w v l)(hb:Below w.heap.size w w'):TxtsIn w' v l:=by
 rcases h with h|⟨g,off,cap,h1,h2,h3,h4⟩
 ·exact .inl h
 ·exact .inr ⟨g,off,cap,h1,h2,Nat.lt_of_lt_of_le h3 hb.size,fun j hj=>(hb.cell (p:=⟨g,off+j,none⟩) h3).trans (h4 j hj)⟩
theorem TxtsIn.form{w:World}{v:Value}{l:List ByteArray}(h:TxtsIn w v l):∃ a cap,v=.slice a l.length cap:=by
 rcases h with ⟨rfl,a,c,rfl⟩|⟨g,off,cap,rfl,_⟩
 ·exact⟨a,c,rfl⟩
 ·exact⟨_,_,rfl⟩
theorem TxtsIn.cellAt{w:World}{a:Option Addr}{n c:Nat}{l:List ByteArray}(h:TxtsIn w (.slice a n c) l)(hl:0<l.length):∃ g off,a=some ⟨g,off,none⟩/\g<w.heap.size/\n<=c/\∀ j (hj:j<l.length),w.cell? ⟨g,off+j,none⟩=some (.string l[j]):=by
 rcases h with ⟨rfl,_⟩|⟨g,off,cap,e,h2,h3,h4⟩
 ·simp at hl
 ·cases e
  exact⟨g,off,rfl,h3,h2,h4⟩
theorem StrsIn.txts{w:World}{v:Value}{l:List ByteArray}(h:StrsIn w v l):TxtsIn w v l:=by
 rcases h with ⟨rfl,h0,_⟩|⟨g,cap,rfl,h1,_,h3,h4⟩
 ·exact .inl ⟨List.length_eq_zero_iff.1 h0,_,_,rfl⟩
 ·exact .inr ⟨g,0,cap,rfl,h1,h3.1,fun j hj=>by rw[Nat.zero_add];exact h4 j _ (by simp[hj])⟩
theorem readTitle_walk(s A B:ByteArray)(ok nm vr:Bool)(w:World)(hw:Hid (MaxIs w))
 (c1:∀ wx,MaxIs wx->Calls Tryz.prog 160 #[.string s,.string ⟨#[32]⟩] wx fun e w'=>e=.returned (.tuple #[.string A,.string B,.bool ok])/\∃ n,w'=wx.drewN n)
 (c2:∀ wx,Calls Tryz.prog 161 #[.string A] wx fun e w'=>Gives nm (.string A) e/\w'=wx)
 (c3:∀ wx,Calls Tryz.prog 162 #[.string B] wx fun e w'=>Gives vr (.string B) e/\w'=wx):
 Calls Tryz.prog 112 #[.string s] w fun e w'=>Gives (ok && nm && vr) (.tuple #[.string A,.string B]) e/\∃ n,w'=w.drewN n:=by
 have cY:=must_ok
 have cN:=must_no
 cases ok
 ·clear c2 c3 cY
  go_enter Tryz.func112,Tryz.ntmps112
  go_wp2_with (first|(go_at_call 160;refine(c1 _ hw.out).mono ?_;rintro e w' ⟨rfl,n,rfl⟩)|(go_at_call 62;refine(cN _).mono ?_;rintro e w' ⟨rfl,rfl⟩))
  exact⟨rfl,gives_f rfl rfl,n,rfl⟩
 clear cN
 cases nm
 ·clear c3
  replace c2:∀ wx,Calls Tryz.prog 161 #[.string A] wx fun e w'=>Thrown e/\w'=wx:=fun wx=>(c2 wx).mono fun e w' h=>⟨gives_thr rfl h.1,h.2⟩
  go_enter Tryz.func112,Tryz.ntmps112
  go_wp2_with (first|(go_at_call 160;refine(c1 _ hw.out).mono ?_;rintro e w' ⟨rfl,n,rfl⟩)|(go_at_call 62;refine(cY _).mono ?_;rintro e w' ⟨rfl,rfl⟩)|(go_at_call 161;refine(c2 _).mono ?_;rintro e w' ⟨rfl,rfl⟩))
  exact⟨rfl,gives_f rfl rfl,n,rfl⟩
 replace c2:∀ wx,Calls Tryz.prog 161 #[.string A] wx fun e w'=>e=.returned (.string A)/\w'=wx:=fun wx=>(c2 wx).mono fun e w' h=>⟨gives_val rfl h.1,h.2⟩
 cases vr
 ·replace c3:∀ wx,Calls Tryz.prog 162 #[.string B] wx fun e w'=>Thrown e/\w'=wx:=fun wx=>(c3 wx).mono fun e w' h=>⟨gives_thr rfl h.1,h.2⟩
  go_enter Tryz.func112,Tryz.ntmps112
  go_wp2_with (first|(go_at_call 160;refine(c1 _ hw.out).mono ?_;rintro e w' ⟨rfl,n,rfl⟩)|(go_at_call 62;refine(cY _).mono ?_;rintro e w' ⟨rfl,rfl⟩)|(go_at_call 161;refine(c2 _).mono ?_;rintro e w' ⟨rfl,rfl⟩)|(go_at_call 162;refine(c3 _).mono ?_;rintro e w' ⟨rfl,rfl⟩))
  exact⟨rfl,gives_f rfl rfl,n,rfl⟩
 ·replace c3:∀ wx,Calls Tryz.prog 162 #[.string B] wx fun e w'=>e=.returned (.string B)/\w'=wx:=fun wx=>(c3 wx).mono fun e w' h=>⟨gives_val rfl h.1,h.2⟩
  go_enter Tryz.func112,Tryz.ntmps112
  go_wp2_with (first|(go_at_call 160;refine(c1 _ hw.out).mono ?_;rintro e w' ⟨rfl,n,rfl⟩)|(go_at_call 62;refine(cY _).mono ?_;rintro e w' ⟨rfl,rfl⟩)|(go_at_call 161;refine(c2 _).mono ?_;rintro e w' ⟨rfl,rfl⟩)|(go_at_call 162;refine(c3 _).mono ?_;rintro e w' ⟨rfl,rfl⟩))
  go_ret2
  exact⟨gives_t rfl rfl,n,rfl⟩
theorem readTitle_any(s:ByteArray)(w:World)(hw:MaxIs w)(hs:s.size<=1000000):
 Calls Tryz.prog 112 #[.string s] w fun e w'=>GivesO (titleC s.data.toList) (fun x=>.tuple #[.string ⟨x.1.toArray⟩,.string ⟨x.2.toArray⟩]) e/\∃ n,w'=w.drewN n:=by
 obtain⟨A,hA⟩:=bytes_ex (Lib.cut s.data.toList [32]).1
 obtain⟨B,hB⟩:=bytes_ex (Lib.cut s.data.toList [32]).2.1
 have h:=len_data s
 have sA:A.size<=s.size:=by have:=(cut_len s.data.toList 32).1;rw[size_of hA];omega
 have sB:B.size<=s.size:=by have:=(cut_len s.data.toList 32).2;rw[size_of hB];omega
 refine(readTitle_walk s A B (Lib.cut s.data.toList [32]).2.2 (isNameK A) (isVerK B) w hw
  (fun wx hx=>cut_lib s A B 32 _ wx hx (by omega) (by rw[hA,hB])) (fun wx=>readName_any A wx (by omega)) (fun wx=>readVersion_any B wx (by omega))).mono ?_
 rintro e w' ⟨h,hn⟩
 refine⟨?_,hn⟩
 have HL:titleC s.data.toList=if (Lib.cut s.data.toList [32]).2.2=true/\isNameK A=true/\isVerK B=true then some (A.data.toList,B.data.toList) else none:=by
  unfold titleC
  rw[<-hA,<-hB]
  rfl
 rw[HL]
 unfold Gives at h
 simp only[Bool.and_eq_true,and_assoc] at h
 split at h
 ·rename_i hc
  rw[if_pos hc]
  exact h
 ·rename_i hc
  rw[if_neg hc]
  exact h
theorem infoChC:(Tryz.prog.info? 140).map (fun i=>(i.zero,i.size,i.bytes))=some (some (.agg #[.string ⟨#[]⟩,.string ⟨#[]⟩,.string ⟨#[]⟩]),3,48):=by kernel_rfl
def preF{α:Type}(f:List UInt8->Option α)(ps:List ByteArray)(k:Nat)(l:List α):Prop:=M.allS f ((ps.take k).map (fun p=>p.data.toList))=some l
theorem preF_go{α:Type}{f:List UInt8->Option α}{ps:List ByteArray}{k:Nat}{l:List α}(h:preF f ps k l)(hk:k<ps.length)(c:α)(hc:f ps[k].data.toList=some c):preF f ps (k+1) (l++[c]):=by
 unfold preF at h ⊢
 rw[List.take_succ_eq_append_getElem hk,List.map_append,List.map_cons,List.map_nil,allS_snoc _ _ _ _ h,hc]
 rfl
theorem preF_no{α:Type}{f:List UInt8->Option α}{ps:List ByteArray}{k:Nat}{l:List α}(h:preF f ps k l)(hk:k<ps.length)(hc:f ps[k].data.toList=none):M.allS f (ps.map (fun p=>p.data.toList))=none:=by
 unfold preF at h
 have e:ps=ps.take (k+1)++ps.drop (k+1):=(List.take_append_drop _ _).symm
 rw[e,List.map_append]
 apply allS_stop
 rw[List.take_succ_eq_append_getElem hk,List.map_append,List.map_cons,List.map_nil,allS_snoc _ _ _ _ h,hc]
 rfl
def RowPost{α:Type}(o:Option (List α))(t size:Nat)(cells:List α->List Value)(w:World)(e:Ending)(w':World):Prop:=
 Below w.heap.size w w'/\match o with
  | none=>Thrown e
  | some l=>∃ v,e=.returned v/\w'.ownsRow w.heap.size t size v l.length (cells l)
theorem row_none{α:Type}{o:Option (List α)}{t size:Nat}{cells:List α->List Value}{w:World}{e:Ending}{w':World}(ho:o=none)(h:Thrown e)(hb:Below w.heap.size w w'):RowPost o t size cells w e w':=by
 subst ho;exact⟨hb,h⟩
theorem row_some{α:Type}{o:Option (List α)}{t size:Nat}{cells:List α->List Value}{w:World}{v:Value}{w':World}(l:List α)(ho:o=some l)(h:w'.ownsRow w.heap.size t size v l.length (cells l))(hb:Below w.heap.size w w'):RowPost o t size cells w (.returned v) w':=by
 subst ho;exact⟨hb,v,rfl,h⟩
theorem strs_at(w:World)(ps:List ByteArray)(t:TypeId)(j:Nat)(hj:j<ps.length):(w.alloc (.cells (ps.map Value.string).toArray t)).cell? ⟨w.heap.size,j,none⟩=some (.string ps[j]):=by
 have:=(newB w (ps.map Value.string) t 0).2.2.1 j (.string ps[j]) (by simp[hj])
 exact this
theorem listChoice_any(s sep:ByteArray)(most:Nat)(w:World)(hw:MaxIs w)(hs:s.size<=100000)(h1:1<=sep.size):
 Calls Tryz.prog 117 #[.string s,.string sep,.int .i64 most,.func (.func 118) #[] #[]] w (RowPost (listC choiceC most s.data.toList sep.data.toList) 140 3 chsCells w):=by
 obtain⟨i0,hi0,hz0,hz1,hz2⟩:=info_parts infoChC
 obtain⟨ps,hps⟩:=bytes_list (cutB s sep)
 have hpn:ps.length<=s.size+1:=by
  have:=(M.cutS_len s.data.toList sep.data.toList).2
  have e:(cutB s sep).length=ps.length:=by rw[hps];simp
  have:(cutB s sep).length<=s.data.toList.length+1:=this
  simp only[Array.length_toList,ByteArray.size_data] at this
  omega
 have HZ:Hid (∀ p∈ps,p.size<=s.size):=fun p hp=>piece_size hps p hp
 have c1:=split_lib s sep ps w hw (by omega) h1 hps
 have HL:Hid (listC choiceC most s.data.toList sep.data.toList=if ps.length<=most then M.allS choiceC (ps.map (fun p=>p.data.toList)) else none):=by
  show _ = _
  unfold listC
  rw[show M.cutS s.data.toList sep.data.toList = _ from hps,List.length_map]
 have cY:=must_ok
 have cN:=must_no
 have eR:∀ args w,(callFunc 118 args).run Tryz.prog w=.ok (.enter 118 args) w:=enters_of Tryz.func118 (by kernel_rfl) rfl
 have hw':Hid (MaxIs w):=hw
 clear hps hw
 by_cases hm:ps.length<=most
 ·have hm':(ps.length:Int)<=most:=by omega
  clear cN
  go_enter Tryz.func117,Tryz.ntmps117
  go_wp2_with (first|(go_at_call 64;refine c1.mono ?_;rintro e w' ⟨rfl,rfl⟩)|(go_at_call 62;refine(cY _).mono ?_;rintro e w' ⟨rfl,rfl⟩))
  obtain⟨hB0,hzs,_,_⟩:=newB w (ps.map Value.string) 9 0
  have HC:Hid (∀ j (hj:j<ps.length),(w.alloc (.cells (ps.map Value.string).toArray 9)).cell? ⟨w.heap.size,j,none⟩=some (.string ps[j])):=fun j hj=>strs_at w ps _ j hj
  replace hB0:Below w.heap.size w (w.alloc (.cells (ps.map Value.string).toArray 9)):=hB0
  replace hzs:(w.alloc (.cells (ps.map Value.string).toArray 9)).heap.size=w.heap.size+1:=hzs
  generalize w.alloc (.cells (ps.map Value.string).toArray 9)=w1 at hB0 HC hzs ⊢
  have hM1:Hid (MaxIs w1):=hw'.out.below hB0
  have HS:=hid hzs
  clear hzs
  go_loopw [10,12,23] (fun v m i wr=>∃ (l:List M.Ch) (k:Nat),i=.int .i64 k/\k<=ps.length/\l.length=k/\wr.ownsRow w1.heap.size 140 3 v k (chsCells l)/\Below w1.heap.size w1 wr/\Hid (preF choiceC ps k l)) (fun _ _ i _=>ps.length-(intOf i).toNat)
  case atStart=>exact⟨[],0,rfl,Nat.zero_le _,rfl,World.ownsRow_nil _ _ _ _,Below.refl _ _,rfl⟩
  case round=>
   obtain⟨l,k,rfl,hk,hlk,hown,hBr,HR⟩:=hrel
   have hsr:=hBr.size
   by_cases hlt:k<ps.length
   ·have ck:wr.cell? ⟨w.heap.size,k,none⟩=some (.string ps[k]):=(hBr.cell (p:=⟨w.heap.size,k,none⟩) (by show w.heap.size<w1.heap.size;rw[HS.out];omega)).trans (HC.out k hlt)
    have hpk:ps[k].size<=s.size:=HZ.out _ (List.getElem_mem hlt)
    have cK:=readChoice_any ps[k] wr (hM1.out.below hBr) (by omega)
    cases hch:choiceC ps[k].data.toList with
    | none=>
     rw[hch] at cK
     have HE:Hid (listC choiceC most s.data.toList sep.data.toList=none):=by
      show _ = _
      rw[HL.out,if_pos hm,preF_no HR.out hlt hch]
     clear hch
     replace cK:Calls Tryz.prog 118 #[.string ps[k]] wr fun e w'=>Thrown e/\Below wr.heap.size wr w':=cK
     go_wp2_with (go_at_fn 118;refine cK.mono ?_;rintro e w2 ⟨rfl,hB2⟩)
     exact⟨rfl,row_none HE.out rfl (bt hB0 (bt hBr hB2))⟩
    | some c=>
     rw[hch] at cK
     have HC2:=hid hch
     clear hch
     replace cK:Calls Tryz.prog 118 #[.string ps[k]] wr fun e w'=>e=.returned (.agg #[.string ⟨c.name.toArray⟩,.string ⟨c.sign.toArray⟩,.string ⟨c.ver.toArray⟩])/\Below wr.heap.size wr w':=cK
     go_wp2_with fail
     refine cK.mono ?_
     rintro e w2 ⟨rfl,hB2⟩
     clear cK
     have hown2:=own_below hown hB2
     have hs2:=hB2.size
     go_wp2_with (at_builtin;refine wpList_append_own _ rfl _ _ 84 rfl w1.heap.size 140 i0 (.agg #[.string ⟨#[]⟩,.string ⟨#[]⟩,.string ⟨#[]⟩]) 3 48 Tryz.underlying84 hi0 hz0 hz1 hz2 rfl (by decide) _ _ _ rfl (hown2.alloc _) ⟨w2.heap.size,0,none⟩ 1 1 [.string ⟨c.name.toArray⟩,.string ⟨c.sign.toArray⟩,.string ⟨c.ver.toArray⟩] rfl rfl ?c1 ?c2 ?c3 ?c4 ?c5 ?_)
     case c1=>exact new_cells _ [.string ⟨c.name.toArray⟩,.string ⟨c.sign.toArray⟩,.string ⟨c.ver.toArray⟩] _
     case c2=>intro u hu;simp at hu;rcases hu with rfl|rfl|rfl <;> rfl
     case c3=>unfold maxLen;omega
     case c4=>omega
     case c5=>simp;omega
     intro v' w3 hown' hgrow _
     have R1:w3.ownsRow w1.heap.size 140 3 v' (k+1) (chsCells (l++[c])):=by
      rw[chsCells_snoc];exact hown'
     have R2:Below w1.heap.size w1 w3:=
      ((hBr.trans (hB2.mono hsr)).alloc (by omega) _).grown hgrow (by simp;omega) (fun j hj=>(hown.lt j hj).1)
     clear hown' hgrow hown hown2
     go_wp2
     go_roundw
     case rel=>exact⟨_,k+1,by go_num,by omega,by simp;omega,R1,R2,preF_go HR.out hlt c HC2.out⟩
     case measure=>simp[intOf];omega
   ·have hkk:k=ps.length:=by omega
    have HE:Hid (listC choiceC most s.data.toList sep.data.toList=some l):=by
     have h:=HR.out
     unfold preF at h
     rw[hkk,List.take_length] at h
     show _ = _
     rw[HL.out,if_pos hm,h]
    obtain⟨av,cv,hv⟩:=own_form hown
    subst hv
    clear hkk
    go_wp2
    go_ret
    exact row_some l HE.out (by rw[hlk];exact own_base hown hB0.size) (bt hB0 hBr)
 ·have hm':¬ (ps.length:Int)<=most:=by omega
  have hd:decide ((ps.length:Int)<=most)=false:=by simp;omega
  have HE:Hid (listC choiceC most s.data.toList sep.data.toList=none):=by show _ = _;rw[HL.out,if_neg hm]
  clear cY
  go_enter Tryz.func117,Tryz.ntmps117
  go_wp2_with (first|(go_at_call 64;refine c1.mono ?_;rintro e w' ⟨rfl,rfl⟩)|(go_at_call 62;refine(cN _).mono ?_;rintro e w' ⟨rfl,rfl⟩))
  exact⟨rfl,row_none HE.out rfl ((Below.refl _ w).alloc ler _)⟩
def partC(q:List UInt8):Option (List UInt8):=if isPartS q=true then some q else none
theorem readPart_c(s:ByteArray)(w:World)(hs:s.size<=1000000):
 Calls Tryz.prog 168 #[.string s] w fun e w'=>GivesO (partC s.data.toList) (fun q=>.string ⟨q.toArray⟩) e/\Below w.heap.size w w':=
 (readPart_any s w hs).mono fun e w' h=>by
   obtain⟨h1,rfl⟩:=h
   refine⟨?_,Below.refl _ _⟩
   unfold partC
   have e0:isPartB s=isPartS s.data.toList:=rfl
   by_cases hp:isPartS s.data.toList=true
   ·rw[if_pos hp]
    exact gives_val (e0.trans hp) h1
   ·rw[if_neg hp]
    exact gives_thr (by rw[e0];simpa using hp) h1
theorem parts_all:∀ (l:List (List UInt8)),M.allS partC l=if l.all isPartS=true then some l else none
 | []=>rfl
 | q :: l=>by
  simp only[M.allS,partC,parts_all l,List.all_cons,Bool.and_eq_true]
  by_cases h1:isPartS q=true <;> by_cases h2:l.all isPartS=true <;> simp[h1,h2]
theorem listPart_any(s sep:ByteArray)(most:Nat)(w:World)(hw:MaxIs w)(hs:s.size<=100000)(h1:1<=sep.size):
 Calls Tryz.prog 167 #[.string s,.string sep,.int .i64 most,.func (.func 168) #[] #[]] w (RowPost (listC partC most s.data.toList sep.data.toList) 9 1 (List.map strV) w):=by
 obtain⟨i0,hi0,hz0,hz1,hz2⟩:=info_parts infoStr
 obtain⟨ps,hps⟩:=bytes_list (cutB s sep)
 have hpn:ps.length<=s.size+1:=by
  have:=(M.cutS_len s.data.toList sep.data.toList).2
  have e:(cutB s sep).length=ps.length:=by rw[hps];simp
  have:(cutB s sep).length<=s.data.toList.length+1:=this
  simp only[Array.length_toList,ByteArray.size_data] at this
  omega
 have HZ:Hid (∀ p∈ps,p.size<=s.size):=fun p hp=>piece_size hps p hp
 have c1:=split_lib s sep ps w hw (by omega) h1 hps
 have HL:Hid (listC partC most s.data.toList sep.data.toList=if ps.length<=most then M.allS partC (ps.map (fun p=>p.data.toList)) else none):=by
  show _ = _
  unfold listC
  rw[show M.cutS s.data.toList sep.data.toList = _ from hps,List.length_map]
 have cY:=must_ok
 have cN:=must_no
 have eR:∀ args w,(callFunc 168 args).run Tryz.prog w=.ok (.enter 168 args) w:=enters_of Tryz.func168 (by kernel_rfl) rfl
 have hw':Hid (MaxIs w):=hw
 clear hps hw
 by_cases hm:ps.length<=most
 ·have hm':(ps.length:Int)<=most:=by omega
  clear cN
  go_enter Tryz.func167,Tryz.ntmps167
  go_wp2_with (first|(go_at_call 64;refine c1.mono ?_;rintro e w' ⟨rfl,rfl⟩)|(go_at_call 62;refine(cY _).mono ?_;rintro e w' ⟨rfl,rfl⟩))
  obtain⟨hB0,hzs,_,_⟩:=newB w (ps.map Value.string) 9 0
  have HC:Hid (∀ j (hj:j<ps.length),(w.alloc (.cells (ps.map Value.string).toArray 9)).cell? ⟨w.heap.size,j,none⟩=some (.string ps[j])):=fun j hj=>strs_at w ps _ j hj
  replace hB0:Below w.heap.size w (w.alloc (.cells (ps.map Value.string).toArray 9)):=hB0
  replace hzs:(w.alloc (.cells (ps.map Value.string).toArray 9)).heap.size=w.heap.size+1:=hzs
  generalize w.alloc (.cells (ps.map Value.string).toArray 9)=w1 at hB0 HC hzs ⊢
  have hM1:Hid (MaxIs w1):=hw'.out.below hB0
  have HS:=hid hzs
  clear hzs
  go_loopw [10,12,23] (fun v m i wr=>∃ (l:List (List UInt8)) (k:Nat),i=.int .i64 k/\k<=ps.length/\l.length=k/\wr.ownsRow w1.heap.size 9 1 v k (l.map strV)/\Below w1.heap.size w1 wr/\Hid (preF partC ps k l)) (fun _ _ i _=>ps.length-(intOf i).toNat)
  case atStart=>exact⟨[],0,rfl,Nat.zero_le _,rfl,World.ownsRow_nil _ _ _ _,Below.refl _ _,rfl⟩
  case round=>
   obtain⟨l,k,rfl,hk,hlk,hown,hBr,HR⟩:=hrel
   have hsr:=hBr.size
   by_cases hlt:k<ps.length
   ·have ck:wr.cell? ⟨w.heap.size,k,none⟩=some (.string ps[k]):=(hBr.cell (p:=⟨w.heap.size,k,none⟩) (by show w.heap.size<w1.heap.size;rw[HS.out];omega)).trans (HC.out k hlt)
    have hpk:ps[k].size<=s.size:=HZ.out _ (List.getElem_mem hlt)
    have cK:=readPart_c ps[k] wr (by omega)
    cases hch:partC ps[k].data.toList with
    | none=>
     rw[hch] at cK
     have HE:Hid (listC partC most s.data.toList sep.data.toList=none):=by
      show _ = _
      rw[HL.out,if_pos hm,preF_no HR.out hlt hch]
     clear hch
     replace cK:Calls Tryz.prog 168 #[.string ps[k]] wr fun e w'=>Thrown e/\Below wr.heap.size wr w':=cK
     go_wp2_with (go_at_fn 168;refine cK.mono ?_;rintro e w2 ⟨rfl,hB2⟩)
     exact⟨rfl,row_none HE.out rfl (bt hB0 (bt hBr hB2))⟩
    | some c=>
     rw[hch] at cK
     have HC2:=hid hch
     clear hch
     replace cK:Calls Tryz.prog 168 #[.string ps[k]] wr fun e w'=>e=.returned (.string ⟨c.toArray⟩)/\Below wr.heap.size wr w':=cK
     go_wp2_with fail
     refine cK.mono ?_
     rintro e w2 ⟨rfl,hB2⟩
     clear cK
     have hown2:=own_below hown hB2
     have hs2:=hB2.size
     go_wp2_with (at_builtin;refine wpList_append_own _ rfl _ _ 41 rfl w1.heap.size 9 i0 (.string ⟨#[]⟩) 1 16 Tryz.underlying41 hi0 hz0 hz1 hz2 rfl (by decide) _ _ _ rfl (hown2.alloc _) ⟨w2.heap.size,0,none⟩ 1 1 [.string ⟨c.toArray⟩] rfl rfl ?c1 ?c2 ?c3 ?c4 ?c5 ?_)
     case c1=>exact one_new _ _ _
     case c2=>intro u hu;simp at hu;subst hu;rfl
     case c3=>unfold maxLen;omega
     case c4=>omega
     case c5=>simp;omega
     intro v' w3 hown' hgrow _
     have R1:w3.ownsRow w1.heap.size 9 1 v' (k+1) ((l++[c]).map strV):=by
      rw[List.map_append];exact hown'
     have R2:Below w1.heap.size w1 w3:=
      ((hBr.trans (hB2.mono hsr)).alloc (by omega) _).grown hgrow (by simp;omega) (fun j hj=>(hown.lt j hj).1)
     clear hown' hgrow hown hown2
     go_wp2
     go_roundw
     case rel=>exact⟨_,k+1,by go_num,by omega,by simp;omega,R1,R2,preF_go HR.out hlt c HC2.out⟩
     case measure=>simp[intOf];omega
   ·have hkk:k=ps.length:=by omega
    have HE:Hid (listC partC most s.data.toList sep.data.toList=some l):=by
     have h:=HR.out
     unfold preF at h
     rw[hkk,List.take_length] at h
     show _ = _
     rw[HL.out,if_pos hm,h]
    obtain⟨av,cv,hv⟩:=own_form hown
    subst hv
    clear hkk
    go_wp2
    go_ret
    exact row_some l HE.out (by rw[hlk];exact own_base hown hB0.size) (bt hB0 hBr)
 ·have hm':¬ (ps.length:Int)<=most:=by omega
  have hd:decide ((ps.length:Int)<=most)=false:=by simp;omega
  have HE:Hid (listC partC most s.data.toList sep.data.toList=none):=by show _ = _;rw[HL.out,if_neg hm]
  clear cY
  go_enter Tryz.func167,Tryz.ntmps167
  go_wp2_with (first|(go_at_call 64;refine c1.mono ?_;rintro e w' ⟨rfl,rfl⟩)|(go_at_call 62;refine(cN _).mono ?_;rintro e w' ⟨rfl,rfl⟩))
  exact⟨rfl,row_none HE.out rfl ((Below.refl _ w).alloc ler _)⟩
def flV(f:M.Fl):Value:=.agg #[.string ⟨f.path.toArray⟩,.string ⟨f.content.toArray⟩]
theorem set2(X:World)(b:Nat)(a0 a1 u0 u1:Value)(h0:X.cell? ⟨b,0,none⟩=some u0)(h1:X.cell? ⟨b,1,none⟩=some u1):
 ((X.setCell ⟨b,0,none⟩ a0).setCell ⟨b,1,none⟩ a1).cell? ⟨b,0,none⟩=some a0/\((X.setCell ⟨b,0,none⟩ a0).setCell ⟨b,1,none⟩ a1).cell? ⟨b,1,none⟩=some a1:=by
 refine⟨?_,?_⟩
 ·rw[setC_off _ _ _ _ _ (by decide),World.cell?_setCell_same _ _ _ h0]
 ·rw[World.cell?_setCell_same _ _ _ (by rw[setC_off _ _ _ _ _ (by decide)];exact h1)]
theorem readFile_walk(s A B:ByteArray)(ok:Bool)(L:Option (List (List UInt8)))(O:Option M.Fl)(w:World)(hw:Hid (MaxIs w))(hB:B.size<=1000000)(HO:Hid (O=if ok=true/\B.size<=24/\L.isSome=true then some (⟨A.data.toList,B.data.toList⟩:M.Fl) else none))
 (c1:∀ wx,MaxIs wx->Calls Tryz.prog 160 #[.string s,.string ⟨#[61]⟩] wx fun e w'=>e=.returned (.tuple #[.string A,.string B,.bool ok])/\∃ n,w'=wx.drewN n)
 (c2:∀ wx,MaxIs wx->Calls Tryz.prog 167 #[.string A,.string ⟨#[47]⟩,.int .i64 3,.func (.func 168) #[] #[]] wx (RowPost L 9 1 (List.map strV) wx)):
 Calls Tryz.prog 121 #[.string s] w fun e w'=>GivesO O flV e/\Below w.heap.size w w':=by
 have hwA:∀ o,MaxIs (w.alloc o):=fun o=>hw.out.below ((Below.refl _ w).alloc ler _)
 have cY:=must_ok
 have cN:=must_no
 go_enter Tryz.func121,Tryz.ntmps121
 go_wp2_with fail
 refine(c1 _ (hwA _)).mono ?_
 rintro e w' ⟨rfl,n,rfl⟩
 obtain⟨hB1,hz,hcl,hfz⟩:=newB w [.string ⟨#[]⟩,.string ⟨#[]⟩] 144 n
 generalize hW:(w.alloc (.cells [Value.string ⟨#[]⟩,.string ⟨#[]⟩].toArray 144)).drewN n=W1 at hB1 hz hcl hfz
 have q0:=hcl 0 _ rfl
 have q1:=hcl 1 _ rfl
 have HB1:=hid hB1
 have hm1:Hid (MaxIs W1):=hw.out.below hB1
 change _ = _ at hW
 simp only[List.toArray] at hW
 cases ok
 ·clear c2 cY
  go_wp2_with ((go_at_call 62;refine(cN _).mono ?_;rintro e w' ⟨rfl,rfl⟩))
  exact⟨rfl,givesO_f (HO.out.trans (if_neg (by simp))) rfl,HB1.out⟩
 by_cases h24:B.size<=24
 ·have h24':(B.size:Int)<=24:=by omega
  clear cN
  have c3:=c2 _ hm1.out
  clear c2
  cases L with
  | none=>
   replace c3:Calls Tryz.prog 167 #[.string A,.string ⟨#[47]⟩,.int .i64 3,.func (.func 168) #[] #[]] W1 fun e w'=>Thrown e/\Below W1.heap.size W1 w':=c3.mono fun e w' h=>⟨h.2,h.1⟩
   go_wp2_with (first|(go_at_call 62;refine(cY _).mono ?_;rintro e w' ⟨rfl,rfl⟩)|(go_at_call 167;refine c3.mono ?_;rintro e w5 ⟨rfl,hB5⟩))
   exact⟨rfl,givesO_f (HO.out.trans (if_neg (by simp))) rfl,bt HB1.out hB5⟩
  | some l=>
   replace c3:Calls Tryz.prog 167 #[.string A,.string ⟨#[47]⟩,.int .i64 3,.func (.func 168) #[] #[]] W1 fun e w'=>(∃ v,e=.returned v)/\Below W1.heap.size W1 w':=c3.mono fun e w' h=>by
    obtain⟨h1,v,h2,_⟩:=h
    exact⟨⟨v,h2⟩,h1⟩
   go_wp2_with (first|(go_at_call 62;refine(cY _).mono ?_;rintro e w' ⟨rfl,rfl⟩)|fail)
   refine c3.mono ?_
   rintro e w5 ⟨⟨v,rfl⟩,hB5⟩
   have p0:=(hB5.cell (p:=⟨w.heap.size,0,none⟩) (by show w.heap.size < _;omega)).trans q0
   have p1:=(hB5.cell (p:=⟨w.heap.size,1,none⟩) (by show w.heap.size < _;omega)).trans q1
   have pf:∀ o,w5.frozen? ⟨w.heap.size,o,none⟩=false:=fun o=>(hB5.frozen (p:=⟨w.heap.size,o,none⟩) (by show w.heap.size < _;omega)).trans (hfz o)
   have HB5:Hid (Below w.heap.size w w5):=bt HB1.out hB5
   go_wp2
   obtain⟨k0,k1⟩:=set2 w5 w.heap.size (.string A) (.string B) _ _ p0 p1
   refine bodyPost_ret (v:=.agg #[.string A,.string B]) (by simp[results,Tryz.results121,go_sem,k0,k1]) rfl ⟨givesO_t _ (HO.out.trans (if_pos (by simpa using h24))) rfl,?_⟩
   exact(HB5.out.setCell ler _).setCell ler _
 ·have h24':¬ (B.size:Int)<=24:=by omega
  have hd:decide ((B.size:Int)<=24)=false:=by simp;omega
  clear c2 cY
  go_wp2_with ((go_at_call 62;refine(cN _).mono ?_;rintro e w' ⟨rfl,rfl⟩))
  exact⟨rfl,givesO_f (HO.out.trans (if_neg (fun h=>h24 h.2.1))) rfl,HB1.out⟩
theorem readFile_any(s:ByteArray)(w:World)(hw:MaxIs w)(hs:s.size<=100000):
 Calls Tryz.prog 121 #[.string s] w fun e w'=>GivesO (fileC s.data.toList) flV e/\Below w.heap.size w w':=by
 obtain⟨A,hA⟩:=bytes_ex (Lib.cut s.data.toList [61]).1
 obtain⟨B,hB⟩:=bytes_ex (Lib.cut s.data.toList [61]).2.1
 have h:=len_data s
 have sA:A.size<=s.size:=by have:=(cut_len s.data.toList 61).1;rw[size_of hA];omega
 have sB:B.size<=s.size:=by have:=(cut_len s.data.toList 61).2;rw[size_of hB];omega
 refine readFile_walk s A B (Lib.cut s.data.toList [61]).2.2 (listC partC 3 A.data.toList [47]) (fileC s.data.toList) w hw (by omega) ?_
  (fun wx hx=>cut_lib s A B 61 _ wx hx (by omega) (by rw[hA,hB])) (fun wx hx=>listPart_any A ⟨#[47]⟩ 3 wx hx (by omega) (by decide))
 show _ = _
 unfold fileC
 rw[<-hA,<-hB,len_data]
 have e:(listC partC 3 A.data.toList [47]).isSome=decide ((M.cutS A.data.toList [47]).length<=3/\(M.cutS A.data.toList [47]).all isPartS=true):=by
  unfold listC
  rw[parts_all]
  by_cases h1:(M.cutS A.data.toList [47]).length<=3 <;> by_cases h2:(M.cutS A.data.toList [47]).all isPartS=true <;> simp[h1,h2]
 simp only[e,decide_eq_true_eq]
end Go.Proofs.YtgnfknjopafngabGreatDoor
