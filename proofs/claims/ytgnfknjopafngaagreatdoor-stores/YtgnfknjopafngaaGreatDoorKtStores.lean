import Derived.OpenShut
import Derived.Test.YtgnfknjopafngaaGreatDoorKtav
import Derived.ProofKit
import Derived.Lay
import Derived.LaidOnce
import Derived.LaidLaws
import Derived.LaidHandle
import Derived.Shelf.Vars
import Derived.ChangeVars
import Derived.SevenTiedAt
import Derived.Test.YtgnfknjopafngaaGreatDoorCards
import Derived.Test.YtgnfknjopafngaaGreatDoorTie
set_option maxRecDepth 100000
namespace Go.Proofs.YtgnfknjopafngaaGreatDoor
open Go.ChangeShapes Go.WideShapes Go.Deep
theorem open_opsB{H:Type}{enc:TypeId × Value->H}{W:World}{spare:Nat->Bool}{held:Bool}{base:Nat}{v:Value}{d:DataW H}{p:List MemPlace}(hv:∃ a l c,v=.slice a l c)
 (h:DataW.Trod enc Tryz.prog W base spare held 37 v d p) (hz:∀ n∈d.weights Tryz.prog 37,n<=reachBytes):∃ ops,Zql W v ops/\∀ o∈ops,o.s.size<=reachBytes/\o.a<=9223372036854775807/\o.b<=9223372036854775807:=by
 obtain⟨va,vl,vc,rfl⟩:=hv
 obtain⟨fuel,h⟩:=h
 have ce:Tryz.prog.cellsOf 81=4:=by kernel_rfl
 have ci:Tryz.prog.cellsOf 3=1:=by kernel_rfl
 have cs:Tryz.prog.cellsOf 9=1:=by kernel_rfl
 rcases open_slice Tryz.underlying37 h with ⟨h0,_⟩|⟨a,len,cap,m,n,D,Pl,h0,hb,hl,hm,hmm,hx,hel⟩
 ·have e:Value.slice va vl vc=.slice none 0 0:=by simpa [Value.cells] using h0
  rw[e]
  exact⟨[],⟨none,0,rfl,Nat.le_refl _,Nat.zero_le _,fun h=>by simp at h⟩,fun o ho=>by cases ho⟩
 ·have e:Value.slice va vl vc=.slice (some a) len cap:=by simpa [Value.cells] using h0
  rw[e]
  have hlm:len<=m:=by rw[hmm];split <;> omega
  have each:∀ i,i<len->∃ o:OpD,W.cell? (a.add (i*4))=some (.int .i64 o.kind)/\W.cell? (a.add (i*4+1))=some (.int .i64 o.a)/\W.cell? (a.add (i*4+2))=some (.int .i64 o.b)/\W.cell? (a.add (i*4+3))=some (.string o.s)/\o.s.size<=reachBytes/\o.a<=9223372036854775807/\o.b<=9223372036854775807:=by
   intro i hi
   obtain⟨cs',h1,h2⟩:=hel i (by omega)
   rw[ce] at h1
   obtain⟨_,hlen,hcell⟩:=World.cells?_some h1
   obtain⟨xs,k,hk,hxy,_,hxl,hf⟩:=DataW.trod_struct Tryz.underlying81 h2
   match xs,hxl,cs',hlen with
   | [y0,y1,y2,y3],_,[v0,v1,v2,v3],_=>
    have g0:=hf 0 _ rfl
    have g1:=hf 1 _ rfl
    have g2:=hf 2 _ rfl
    have g3:=hf 3 _ rfl
    simp[ci,cs] at g0 g1 g2 g3
    obtain⟨n0,e0,_,_⟩:=DataW.trod_int Tryz.underlying3 g0
    obtain⟨n1,e1,_,f1⟩:=DataW.trod_int Tryz.underlying3 g1
    obtain⟨n2,e2,_,f2⟩:=DataW.trod_int Tryz.underlying3 g2
    obtain⟨s3,e3,e4,_⟩:=DataW.trod_string Tryz.underlying9 g3
    have k0:=hcell 0 (by omega)
    have k1:=hcell 1 (by omega)
    have k2:=hcell 2 (by omega)
    have k3:=hcell 3 (by omega)
    rw[add_add] at k0 k1 k2 k3
    simp at e0 e1 e2 e3
    subst e0 e1 e2 e3
    refine⟨⟨n0,n1,n2,s3⟩,by simpa using k0,by simpa using k1,by simpa using k2,by simpa using k3,?_,(bounds_i64 f1).2,(bounds_i64 f2).2⟩
    simp only[Prod.mk.injEq] at hx hxy
    have hD:D i=.agg [y0.1,y1.1,y2.1,y3.1]:=by simpa using hxy.1
    have hw:s3.data.toList.length∈(D i).weights Tryz.prog 81:=by
     rw[hD,e4]
     unfold DataW.weights
     rw[Tryz.underlying81]
     simp[DataW.weightsEach,DataW.weights]
    have:=hz s3.data.toList.length (by
     rw[hx.1]
     unfold DataW.weights
     rw[Tryz.underlying37]
     simp only[List.mem_cons,List.mem_append]
     refine .inr (.inl (Zp4 (i:=i) (d:=D i) ?_ _ hw))
     rw[List.getElem?_map,List.getElem?_range hi]
     rfl)
    simpa using this
  haveI:Inhabited OpD:=⟨⟨0,0,0,⟨#[]⟩⟩⟩
  obtain⟨q,hq⟩:=choose_lt each
  refine⟨(List.range len).map q,⟨some a,cap,by simp,by simpa using hl,hm,fun h0=>?_⟩,fun o ho=>?_⟩
  ·have hl0:0<len:=by simpa using h0
   have hs:=Z54 (by have:=(hq 0 hl0).1;simpa [Addr.add] using this)
   obtain⟨g,off,sp⟩:=a
   simp only at hs
   subst hs
   refine⟨g,off,rfl,by have:=World.block_lt_of_cell? _ _ (hq 0 hl0).1;simpa [Addr.add] using this,fun i hi=>?_⟩
   have hi':i<len:=by simpa using hi
   obtain⟨k0,k1,k2,k3,_⟩:=hq i hi'
   rw[addr_add] at k0 k1 k2 k3
   simp only[List.getElem_map,List.getElem_range]
   exact⟨k0,by rw[Nat.add_assoc];exact k1,by rw[Nat.add_assoc];exact k2,by rw[Nat.add_assoc];exact k3⟩
  ·obtain⟨i,hi,rfl⟩:=List.mem_map.1 ho
   exact(hq i (List.mem_range.1 hi)).2.2.2.2
namespace LaidKit
open Go.ChangeShapes Go.WideShapes Go.ChangeAt Go.RowKit
def L : List (String × DataW Unit) := [("unicode/utf8.acceptRanges", Rows.laid_unicode_utf8_acceptRanges), ("errors.errorType", Rows.laid_errors_errorType), ("unicode/utf8.first", Rows.laid_unicode_utf8_first)]
theorem own:ownKnob Tryz.prog.godebug=none:=by kernel_rfl
theorem et : Tryz.prog.globalNamed "errors.errorType" = some 0 := by kernel_rfl
theorem rt : (Tryz.prog.cutTypes.find? (·.1 == "internal/reflectlite.rtype")).map (·.2) = some 221 := by kernel_rfl
theorem oneRow:((List.range 381).filter fun t=>Tryz.prog.rowNamed t [101,114,114,111,114])=[67]:=by kernel_rfl
theorem size:Tryz.prog.types.size=381:=by kernel_rfl
theorem hlist : (L.filter fun x => x.2.handleName?.isSome) = [("errors.errorType", Rows.laid_errors_errorType)] := by kernel_rfl
theorem laidOut:laidOutB Tryz.prog=true:=by kernel_rfl
theorem laid_err{W:World}(h:laidMetH Tryz.prog L W):Zdw W:=by
 unfold laidMetH at h
 rw[hlist] at h
 obtain⟨name,u,ty,e1,e2,e3,e4,e5⟩:=h.2 _ (List.mem_singleton.2 rfl)
 have en:name=[101,114,114,111,114]:=(Option.some.inj e1).symm
 subst en
 obtain rfl:=Option.some.inj (rt.symm.trans e2)
 have hm:ty∈(List.range 381).filter fun t=>Tryz.prog.rowNamed t [101,114,114,111,114]:=List.mem_filter.2 ⟨List.mem_range.2 (by rw[<-size];exact e3),e4⟩
 rw[oneRow] at hm
 obtain rfl:=List.mem_singleton.1 hm
 have hh:typeHandle Tryz.prog 67=.pointer (some ⟨4,67,none⟩):=by kernel_rfl
 rw[hh] at e5
 have h0:=World.var?_cell et e5 0
 show W.cell? ⟨0,0,none⟩ = _
 simpa using h0
def dataL:List (String × DataW Unit):=L.filter fun x=>x.2.handleName?.isNone
def setH:Obj->Obj
 | .cells _ t frozen=>.cells #[.iface 221 (.agg #[.pointer (some ⟨4,67,none⟩)])] t frozen
 | o=>o
def witH(w0:World):World:={ w0 with heap:=w0.heap.modify 0 setH }
theorem wit_os(os:Os):((witH (World.holding Tryz.prog os ⟨#[],#[],[]⟩)).layVars Tryz.prog dataL).os=os:=(World.layVars_os _ _ _).trans rfl
theorem wit_data(os:Os):laidMet Tryz.prog dataL ((witH (World.holding Tryz.prog os ⟨#[],#[],[]⟩)).layVars Tryz.prog dataL):=by
 have e1:(dataL.filter fun x=>(dataL.map (·.1)).contains x.1)=dataL:=List.filter_eq_self.2 fun x hx=>List.contains_iff_mem.2 (List.mem_map.2 ⟨x,hx,rfl⟩)
 have e2:(dataL.filter fun x=>!(dataL.map (·.1)).contains x.1)=[]:=List.filter_eq_nil_iff.2 fun x hx=>by rw[List.contains_iff_mem.2 (List.mem_map.2 ⟨x,hx,rfl⟩)];simp
 exact laidMet_layVars (w0:=witH (World.holding Tryz.prog os ⟨#[],#[],[]⟩)) (dataL.map (·.1)) [] (by rw[e1]) (by rw[e1];kernel_rfl) (by rw[e1];kernel_rfl) (by rw[e2];exact LaidIn.none)
theorem wit_met(os:Os)(args:Array Value):laidMetH Tryz.prog L (((witH (World.holding Tryz.prog os ⟨#[],#[],[]⟩)).layVars Tryz.prog dataL).forCall (fun _ _=>0) ⟨#[],args,[]⟩).memory:=
 laidMetH_of_parts ((wit_data os).of_heap (by simp[World.memory,World.forCall,Input.heap])) (by kernel_rfl)
theorem maxLen_int{W:World}(h:W.ShapedOpen Tryz.prog):∃ m,W.cell? ⟨1,0,none⟩=some (.int .i64 m):=
 Go.Proofs.cell_of_shapedOpen_int (zero:=#[.int .i64 0]) (t:=3) h (of_decide_eq_true (by kernel_rfl)) (by kernel_rfl) rfl (by kernel_rfl) (by kernel_rfl) Tryz.underlying3
theorem weights_of{H:Type}{ts:List TypeId}{ds:List (DataW H)}(h:(DataW.weightsEach Tryz.prog ts ds).all (·<=reachBytes)=true){j:Nat}{t:TypeId}{d:DataW H}(ht:ts[j]? = some t)(hd:ds[j]? = some d):∀ n∈d.weights Tryz.prog t,n<=reachBytes:=fun n hn=>by
 have:=List.all_eq_true.1 h n (DataW.weights_mem_each ht hd n hn)
 simpa using this
end LaidKit
end Go.Proofs.YtgnfknjopafngaaGreatDoor
namespace Go.Proofs.YtgnfknjopafngaaGreatDoor
open Go.RowKit Go.Maps
theorem stores_law(sectors:Int)(ov:Value)(ops:List OpD)(w:World)(hR:Ready w)(ho:Zql w ov ops)(hos:∀ o∈ops,o.s.size<=1000000000000000000/\o.a<=9223372036854775807/\o.b<=9223372036854775807):
 Calls Tryz.prog 5 #[.int .i64 sectors,ov] w fun e W'=>e=.returned (.bool true)/\Below w.heap.size w W':=by
 generalize hA:w.alloc (.cells #[.int .i64 3,.int .i64 4,.int .i64 5,.int .i64 6,.int .i64 7,.int .i64 8] 3)=A
 have hB:Below w.heap.size w A:=by rw[<-hA];exact(Below.refl _ w).alloc ler _
 have hk:Yde A (.slice (some ⟨w.heap.size,0,none⟩) 6 6) [3,4,5,6,7,8]:=⟨w.heap.size,rfl,fun j hj=>by
  rw[<-hA]
  refine Zbk w [.int .i64 3,.int .i64 4,.int .i64 5,.int .i64 6,.int .i64 7,.int .i64 8] _ j _ ?_
  match j,hj with
  | 0,_=>rfl
  | 1,_=>rfl
  | 2,_=>rfl
  | 3,_=>rfl
  | 4,_=>rfl
  | 5,_=>rfl⟩
 have cP:=Ydb (K:=True) sectors ov (.slice (some ⟨w.heap.size,0,none⟩) 6 6) ops [3,4,5,6,7,8] A (hR.below hB) (ho.below hB) (fun o h=>(hos o h).1) hk (by decide) (by decide) (fun wb k W hlt h8 h hin=>by
  by_cases h5:ops[k].kind=5\/ops[k].kind=7\/ops[k].kind=8
  ·exact Z8s hlt h8 h h5
  ·refine Yaq hlt h8 h ?_
   simp only[List.mem_cons,List.not_mem_nil,or_false] at hin
   omega) (.inr ⟨by decide,by decide,fun wb W h=>Yda h⟩)
 obtain⟨ao,co,eo,_⟩:=ho
 subst eo
 clear hos hR hk
 go_enter Tryz.func5,Tryz.ntmps5
 go_wp2_with fail
 refine cP.mono ?_
 rintro e W' ⟨rfl,hB'⟩
 go_wp2
 go_ret
 exact⟨rfl,bt hB hB'⟩
namespace StoresProof
theorem fact1:(Rows.storesRow.inPlace == Tryz.prog.inPlace 5)=true:=by kernel_rfl
theorem fact2:(Rows.storesRow.unfollowed == Tryz.prog.unfollowed 5)=true:=by kernel_rfl
theorem fact3:(Rows.storesRow.recurses == Tryz.prog.recurses 5)=true:=by kernel_rfl
theorem fact4:(Rows.storesRow.named == Tryz.prog.varsNamed 5)=true:=by kernel_rfl
theorem closed:joinedFacts Tryz.prog 5 Tryz.f5 Rows.storesSpec Rows.storesRow=true:=by
 unfold joinedFacts
 rw[fact1,fact2,fact3,fact4]
 kernel_rfl
end StoresProof
namespace StoresProof
open Go.ChangeShapes Go.WideShapes Go.ChangeAt Go.RowKit
open LaidKit
theorem lifted(os:Os)(started:os.Started)(H:Type)(enc:TypeId × Value->H):
 ReturnsInHanded {} Tryz.checked os 5 .any (fun w args=>(Rows.storesSpec.pre enc Tryz.prog Tryz.f5 Rows.storesRow.domain false w args/\laidMetH Tryz.prog Rows.storesRow.laid w)/\sizedMet enc Tryz.prog Tryz.f5 (OpenSpec.ofChange Rows.storesSpec) false w args)
  (Rows.storesSpec.post enc Tryz.prog Tryz.f5 false true false false):=by
 refine returnsInHanded_of_calls (C:=Tryz.checked) own started (by kernel_rfl)
  (ChangeSpec.witness_shaped (enc:=enc) (C:=Tryz.checked) (os:=os) (X:=fun w _=>laidMetH Tryz.prog Rows.storesRow.laid w) false ((witH (World.holding Tryz.prog os ⟨#[],#[],[]⟩)).layVars Tryz.prog dataL) #[.int .i64 0,.slice none 0 0] 8 (wit_os os)
    (World.shaped_of_ZipB (by kernel_rfl) (by kernel_rfl)) (by kernel_rfl) (by kernel_rfl) (by kernel_rfl) (wit_met os _)) ?_
 intro w0 tape inp _ hsh _ hok hpre _
 obtain⟨_,_,_,fn',hfn',_,_,_,_,hval0'⟩:=hok
 obtain rfl:fn'=Tryz.f5:=Option.some.inj (hfn'.symm.trans Tryz.func5)
 obtain⟨⟨⟨ds,gs,before,hw,_⟩,hx⟩,hz⟩:=hpre
 have hW:=DataW.Whole.of_heap (w':=w0.forCall tape inp) (by rfl) hw
 have hsz:=hz.weights hw
 have hL:laidMetH Tryz.prog L (w0.forCall tape inp):=laidMetH.of_heap (by rfl) hx
 have hI:=maxLen_int hsh
 suffices hc:Calls Tryz.prog 5 inp.args (w0.forCall tape inp) fun e W'=>∃ v,e=.returned v/\Rows.storesSpec.post enc Tryz.prog Tryz.f5 false true false false (w0.forCall tape inp) inp.args v W' by
  refine hc.mono fun e W' ⟨v,he,hp⟩=>?_
  subst he
  exact ChangeSpec.post_blind hp
 clear hz hx hw hsh
 revert hval0' hW hsz hL hI
 generalize inp.args=args
 generalize w0.forCall tape inp=W
 intro hval0 hW hsz hL hI
 have hval:∀ (j:Nat) t v,Tryz.f5.params[j]? = some t->args[j]? = some v->Value.okWide Tryz.prog W .any w0.heap.size t v:=hval0
 have hW':=hW
 obtain⟨p,q,hA0,hV,rfl,_,_⟩:=hW
 have hA:DataW.TrodAll enc Tryz.prog W 0 (fun _=>true) true Tryz.f5.params.toList args.toList ds p:=hA0
 rw[Tryz.params5] at hA hval hsz
 obtain⟨v0,v1,d0,d1,p0,p1,rfl,rfl,rfl,h0,h1⟩:=trodAll_two hA
 obtain⟨rfl,rfl⟩:=trodVars_none hV
 have h1k:=h1
 obtain⟨n0,rfl,rfl,rfl,hn0⟩:=open_int Tryz.underlying3 (hval 0 3 v0 rfl rfl) h0
 obtain⟨ops,hops,hob⟩:=open_opsB (okWide_slice Tryz.underlying37 (hval 1 37 v1 rfl rfl)) h1 (weights_of hsz (j:=1) rfl rfl)
 have hr:=reachBytes_lt
 have hE:Ready W:=⟨laid_err hL,hI⟩
 have hlt:∀ x∈p1,x.block<W.heap.size:=fun x hx=>hW'.lt x (by simpa using hx)
 refine(stores_law n0 v1 ops W hE hops (fun o ho=>by have:=hob o ho;omega)).mono fun e W' ⟨he,hb'⟩=>?_
 subst he
 exact⟨_,rfl,_,_,_,[],_,[],hW',trodAll_mk1 (shut_bool Tryz.underlying4 _),trodAll_mk2 (shut_int Tryz.underlying3 hn0) (Below.trod laidOut (by kernel_rfl) (of_decide_eq_true (by kernel_rfl)) h1k hb' (fun x hx=>hlt x hx)),rfl,hb'.frame _,fun h=>by cases h⟩
theorem said:Rows.StoresSaid:=
 OpenClaim.holds_of_wide 5 Tryz.f5 rfl rfl rfl rfl rfl rfl rfl ⟨rfl,rfl,rfl,rfl,rfl⟩ rfl rfl rfl rfl rfl (by kernel_rfl) Tryz.func5 closed
  (of_decide_eq_true (by kernel_rfl)) (by unfold Func.isWrapper;first|(rw[if_pos (by decide +kernel)];kernel_rfl)|(rw[if_neg (by decide +kernel)];exact⟨rfl,rfl⟩))
  (fun os started H enc _=>lifted os started H enc)
theorem plain (f : FuncId) (fn : Func) (hf : Tryz.pinned.checked.prog.funcNamed "parcels/parcelslaw.Stores" = some f) (hfn : Tryz.pinned.checked.prog.funcs[f]? = some fn) :
 true=Tryz.pinned.checked.prog.looks []/\∀ (j:Nat) t,fn.params[j]? = some t->Tryz.pinned.checked.prog.wantsStandIn t=false:=by
 obtain rfl : f = 5 := Option.some.inj ((show Tryz.prog.funcNamed "parcels/parcelslaw.Stores" = some 5 by kernel_rfl).symm.trans hf) |>.symm
 obtain rfl:fn=Tryz.f5:=(Option.some.inj (Tryz.func5.symm.trans hfn)).symm
 refine⟨by kernel_rfl,fun j t ht=>?_⟩
 rw[Tryz.params5] at ht
 have hm:t∈[3,37]:=by simpa using Array.mem_of_getElem? ht
 rcases List.mem_cons.1 hm with rfl|hm
 ·exact(show Tryz.prog.wantsStandIn 3=false by kernel_rfl)
 ·obtain rfl:t=37:=by simpa using hm
  exact(show Tryz.prog.wantsStandIn 37=false by kernel_rfl)
end StoresProof
theorem stores_card:Rows.StoresCardSaid:=
 Claim7.holds_tied_plain_at .later [] _ _ _ _ StoresProof.said (fun _ h=>by cases h) (by kernel_rfl) (fun _ h=>by cases h) stores_row_tie rfl ⟨rfl,rfl⟩ (by kernel_rfl) rfl StoresProof.plain (by kernel_rfl)
end Go.Proofs.YtgnfknjopafngaaGreatDoor
