import Derived.ProofKit
import Derived.OpenShut
import Derived.Lay
import Derived.LaidOnce
import Derived.LaidLaws
import Derived.LaidHandle
import Derived.Shelf.Vars
import Derived.ChangeVars
import Derived.SizedLaws
import Derived.SevenTiedAt
import Derived.Test.YtgnfknjopafngabGreatDoorCards
import Derived.Test.YtgnfknjopafngabGreatDoorTie
import Derived.Carry
import Derived.Test.YtgnfknjopafngabGreatDoorKnTc
import Derived.Test.YtgnfknjopafngabGreatDoorKnTd
set_option maxRecDepth 100000
namespace Go.Proofs.YtgnfknjopafngabGreatDoor
namespace LaidKit
open Go.ChangeShapes Go.WideShapes Go.ChangeAt Go.RowKit
def L : List (String × DataW Unit) := [("unicode/utf8.acceptRanges", Rows.laid_unicode_utf8_acceptRanges), ("errors.errorType", Rows.laid_errors_errorType), ("unicode/utf8.first", Rows.laid_unicode_utf8_first)]
theorem own:ownKnob Tryz.prog.godebug=none:=by kernel_rfl
theorem et : Tryz.prog.globalNamed "errors.errorType" = some 0 := by kernel_rfl
theorem rt : (Tryz.prog.cutTypes.find? (·.1 == "internal/reflectlite.rtype")).map (·.2) = some 211 := by kernel_rfl
theorem oneRow:((List.range 388).filter fun t=>Tryz.prog.rowNamed t [101,114,114,111,114])=[53]:=by kernel_rfl
theorem size:Tryz.prog.types.size=388:=by kernel_rfl
theorem hlist : (L.filter fun x => x.2.handleName?.isSome) = [("errors.errorType", Rows.laid_errors_errorType)] := by kernel_rfl
theorem laidOut:laidOutB Tryz.prog=true:=by kernel_rfl
theorem laid_err{W:World}(h:laidMetH Tryz.prog L W):ErrLaid W:=by
 unfold laidMetH at h
 rw[hlist] at h
 obtain⟨name,u,ty,e1,e2,e3,e4,e5⟩:=h.2 _ (List.mem_singleton.2 rfl)
 have en:name=[101,114,114,111,114]:=(Option.some.inj e1).symm
 subst en
 obtain rfl:=Option.some.inj (rt.symm.trans e2)
 have hm:ty∈(List.range 388).filter fun t=>Tryz.prog.rowNamed t [101,114,114,111,114]:=List.mem_filter.2 ⟨List.mem_range.2 (by rw[<-size];exact e3),e4⟩
 rw[oneRow] at hm
 obtain rfl:=List.mem_singleton.1 hm
 have hh:typeHandle Tryz.prog 53=.pointer (some ⟨4,53,none⟩):=by kernel_rfl
 rw[hh] at e5
 have h0:=World.var?_cell et e5 0
 show W.cell? ⟨0,0,none⟩ = _
 simpa using h0
def dataL:List (String × DataW Unit):=L.filter fun x=>x.2.handleName?.isNone
def setH:Obj->Obj
 | .cells _ t frozen=>.cells #[.iface 211 (.agg #[.pointer (some ⟨4,53,none⟩)])] t frozen
 | o=>o
def witH(w0:World):World:={ w0 with heap:=w0.heap.modify 0 setH }
theorem wit_os(os:Os):((witH (World.holding Tryz.prog os ⟨#[],#[],[]⟩)).layVars Tryz.prog dataL).os=os:=(World.layVars_os _ _ _).trans rfl
theorem wit_data(os:Os):laidMet Tryz.prog dataL ((witH (World.holding Tryz.prog os ⟨#[],#[],[]⟩)).layVars Tryz.prog dataL):=by
 have e1:(dataL.filter fun x=>(dataL.map (·.1)).contains x.1)=dataL:=List.filter_eq_self.2 fun x hx=>List.contains_iff_mem.2 (List.mem_map.2 ⟨x,hx,rfl⟩)
 have e2:(dataL.filter fun x=>!(dataL.map (·.1)).contains x.1)=[]:=List.filter_eq_nil_iff.2 fun x hx=>by rw[List.contains_iff_mem.2 (List.mem_map.2 ⟨x,hx,rfl⟩)];simp
 exact laidMet_layVars (w0:=witH (World.holding Tryz.prog os ⟨#[],#[],[]⟩)) (dataL.map (·.1)) [] (by rw[e1]) (by rw[e1];kernel_rfl) (by rw[e1];kernel_rfl) (by rw[e2];exact LaidIn.none)
theorem wit_met(os:Os)(args:Array Value):laidMetH Tryz.prog L (((witH (World.holding Tryz.prog os ⟨#[],#[],[]⟩)).layVars Tryz.prog dataL).forCall (fun _ _=>0) ⟨#[],args,[]⟩).memory:=
 laidMetH_of_parts ((wit_data os).of_heap (by simp[World.memory,World.forCall,Input.heap])) (by kernel_rfl)
theorem maxLen_int{W:World}(h:W.ShapedOpen Tryz.prog):∃ m,W.cell? ⟨1,0,none⟩=some (.int .i64 m):=
 Go.Proofs.cell_of_shapedOpen_int (zero:=#[.int .i64 0]) (t:=3) h (of_decide_eq_true (by kernel_rfl)) (by kernel_rfl) rfl (by kernel_rfl) (by kernel_rfl) Tryz.underlying3
theorem weights_of{H:Type}{ts:List TypeId}{ds:List (DataW H)}(h:(DataW.weightsEach Tryz.prog ts ds).all (·<=reachBytes)=true){j:Nat}{t:TypeId}{d:DataW H}(ht:ts[j]? = some t)(hd:ds[j]? = some d):∀ n∈d.weights Tryz.prog t,n<=reachBytes:=fun n hn=>by
 have:=List.all_eq_true.1 h n (DataW.weights_mem_each ht hd n hn)
 simpa using this
end LaidKit
namespace KnownProof
theorem fact1:(Rows.knownRow.inPlace == Tryz.prog.inPlace 3)=true:=by kernel_rfl
theorem fact2:(Rows.knownRow.unfollowed == Tryz.prog.unfollowed 3)=true:=by kernel_rfl
theorem fact3:(Rows.knownRow.recurses == Tryz.prog.recurses 3)=true:=by kernel_rfl
theorem fact4:(Rows.knownRow.named == Tryz.prog.varsNamed 3)=true:=by kernel_rfl
theorem closed:joinedFacts Tryz.prog 3 Tryz.f3 Rows.knownSpec Rows.knownRow=true:=by
 unfold joinedFacts
 rw[fact1,fact2,fact3,fact4]
 kernel_rfl
end KnownProof
namespace KnownProof
open Go.ChangeShapes Go.WideShapes Go.ChangeAt Go.RowKit
open LaidKit
theorem lifted(os:Os)(started:os.Started)(H:Type)(enc:TypeId × Value->H):
 ReturnsInHanded {} Tryz.checked os 3 .any (fun w args=>(Rows.knownSpec.pre enc Tryz.prog Tryz.f3 Rows.knownRow.domain false w args/\laidMetH Tryz.prog Rows.knownRow.laid w)/\sizedMet enc Tryz.prog Tryz.f3 (OpenSpec.ofChange Rows.knownSpec) false w args)
  (Rows.knownSpec.post enc Tryz.prog Tryz.f3 false true false false):=by
 refine returnsInHanded_of_calls (C:=Tryz.checked) own started (by kernel_rfl)
  (ChangeSpec.witness_shaped (enc:=enc) (C:=Tryz.checked) (os:=os) (X:=fun w _=>laidMetH Tryz.prog Rows.knownRow.laid w) false ((witH (World.holding Tryz.prog os ⟨#[],#[],[]⟩)).layVars Tryz.prog dataL) #[.int .i64 0] 8 (wit_os os)
    (World.shaped_of_ZipB (by kernel_rfl) (by kernel_rfl)) (by kernel_rfl) (by kernel_rfl) (by kernel_rfl) (wit_met os _)) ?_
 intro w0 tape inp _ hsh _ hok hpre _
 obtain⟨_,_,_,fn',hfn',_,_,_,_,hval0'⟩:=hok
 obtain rfl:fn'=Tryz.f3:=Option.some.inj (hfn'.symm.trans Tryz.func3)
 obtain⟨⟨⟨ds,gs,before,hw,_⟩,hx⟩,hz⟩:=hpre
 have hW:=DataW.Whole.of_heap (w':=w0.forCall tape inp) (by rfl) hw
 have hL:laidMetH Tryz.prog L (w0.forCall tape inp):=laidMetH.of_heap (by rfl) hx
 have hI:=maxLen_int hsh
 suffices hc:Calls Tryz.prog 3 inp.args (w0.forCall tape inp) fun e W'=>∃ v,e=.returned v/\Rows.knownSpec.post enc Tryz.prog Tryz.f3 false true false false (w0.forCall tape inp) inp.args v W' by
  refine hc.mono fun e W' ⟨v,he,hp⟩=>?_
  subst he
  exact ChangeSpec.post_blind hp
 clear hz hx hw hsh
 revert hval0' hW hL hI
 generalize inp.args=args
 generalize w0.forCall tape inp=W
 intro hval0 hW hL hI
 have hval:∀ (j:Nat) t v,Tryz.f3.params[j]? = some t->args[j]? = some v->Value.okWide Tryz.prog W .any w0.heap.size t v:=hval0
 have hW':=hW
 obtain⟨p,q,hA0,hV,rfl,_,_⟩:=hW
 have hA:DataW.TrodAll enc Tryz.prog W 0 (fun _=>true) true Tryz.f3.params.toList args.toList ds p:=hA0
 rw[Tryz.params3] at hA hval
 obtain⟨v0,d0,rfl,rfl,h0⟩:=trodAll_one hA
 obtain⟨rfl,rfl⟩:=trodVars_none hV
 obtain⟨n0,rfl,rfl,rfl,hn0⟩:=open_int Tryz.underlying3 (hval 0 3 v0 rfl rfl) h0
 have hE:Ready W:=⟨laid_err hL,hI⟩
 obtain⟨b1,b2⟩:=bounds_i64 hn0
 refine(known_law n0 W hE b1 b2 (fun wx h=>story_any wx h)).mono fun e W' ⟨he,hb'⟩=>?_
 subst he
 exact⟨_,rfl,_,_,_,[],_,[],hW',trodAll_mk1 (shut_bool Tryz.underlying4 _),trodAll_mk1 (shut_int Tryz.underlying3 hn0),rfl,hb'.frame _,fun h=>by cases h⟩
theorem said:Rows.KnownSaid:=
 OpenClaim.holds_of_wide 3 Tryz.f3 rfl rfl rfl rfl rfl rfl rfl ⟨rfl,rfl,rfl,rfl,rfl⟩ rfl rfl rfl rfl rfl (by kernel_rfl) Tryz.func3 closed
  (of_decide_eq_true (by kernel_rfl)) (by unfold Func.isWrapper;first|(rw[if_pos (by decide +kernel)];kernel_rfl)|(rw[if_neg (by decide +kernel)];exact⟨rfl,rfl⟩))
  (fun os started H enc _=>lifted os started H enc)
theorem plain (f : FuncId) (fn : Func) (hf : Tryz.pinned.checked.prog.funcNamed "parcels/parcelskeep.Known" = some f) (hfn : Tryz.pinned.checked.prog.funcs[f]? = some fn) :
 true=Tryz.pinned.checked.prog.looks []/\∀ (j:Nat) t,fn.params[j]? = some t->Tryz.pinned.checked.prog.wantsStandIn t=false:=by
 obtain rfl : f = 3 := Option.some.inj ((show Tryz.prog.funcNamed "parcels/parcelskeep.Known" = some 3 by kernel_rfl).symm.trans hf) |>.symm
 obtain rfl:fn=Tryz.f3:=(Option.some.inj (Tryz.func3.symm.trans hfn)).symm
 refine⟨by kernel_rfl,fun j t ht=>?_⟩
 rw[Tryz.params3] at ht
 have hm:t∈[3]:=by simpa using Array.mem_of_getElem? ht
 obtain rfl:t=3:=by simpa using hm
 exact(show Tryz.prog.wantsStandIn 3=false by kernel_rfl)
end KnownProof
theorem known_card:Rows.KnownCardSaid:=
 Claim7.holds_tied_plain_at .later [] _ _ _ _ KnownProof.said (fun _ h=>by cases h) (by kernel_rfl) (fun _ h=>by cases h) known_row_tie rfl ⟨rfl,rfl⟩ (by kernel_rfl) rfl KnownProof.plain (by kernel_rfl)
end Go.Proofs.YtgnfknjopafngabGreatDoor
