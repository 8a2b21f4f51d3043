import PyProof.Rows.All
import Wide.All
import OpenK.AllK
import Wide.FinOn
import HandS.ForMost
import HandS.IsInst
import HandS.Sort
import HandS.Conv
import HandS.Codes
import HandS.Flow
import HandS.ForExc
import HandS.ExcInit
import HandS.ExcField
import HandS.ExcIs
import HandS.FStr
import KE.KExcSuper
import KE.KSuper
import KE.KExcIs
import KE.RegKSuper
import PySem.Challenge.RW_salvor_k02_valid_stores
set_option Elab.async false
set_option maxRecDepth 100000
set_option maxHeartbeats 4000000
namespace S2
open PySem L2
def top (i : Nat) : Stmt := PySem.Challenge.pw_salvor_k02_valid_stores.main.body.getD i (.Pass ⟨0, 0, 0, 0⟩)
abbrev s_check : Stmt := top 16
abbrev s_depth : Stmt := top 17
abbrev s_require : Stmt := top 18
abbrev s_check_get : Stmt := top 19
abbrev s_check_body : Stmt := top 20
abbrev s_fits : Stmt := top 21
abbrev s_bodies_below : Stmt := top 22
abbrev s_bodies_in : Stmt := top 23
abbrev s_check_statements : Stmt := top 24
abbrev s_check_statement : Stmt := top 25
abbrev s_check_write : Stmt := top 26
abbrev s_check_variable : Stmt := top 27
abbrev s_check_expression : Stmt := top 28
abbrev s_too_deep : Stmt := top 29
abbrev s_expressions_below : Stmt := top 30
abbrev s_expressions_in : Stmt := top 31
abbrev s_check_leaves : Stmt := top 32
abbrev s__law_state : Stmt := top 34
abbrev s__law_draw : Stmt := top 35
abbrev s__law_expr : Stmt := top 36
abbrev s__law_statement : Stmt := top 37
abbrev s__law_body : Stmt := top 38
abbrev s__law_store : Stmt := top 39
abbrev s__law_depth : Stmt := top 40
abbrev s__law_large : Stmt := top 41
abbrev s_law : Stmt := top 42
abbrev s_StoreError__init__ : Stmt := inClass (top 2) 0
abbrev s_Scope__init__ : Stmt := inClass (top 15) 0
end S2
/-! ### StoreError(rule), made and raised: its own __init__ says super().__init__(..) and stores the field -/
namespace S2.SE
open PySem PySem.W PySem.Calls PyProof.Rows PySem.HandSPX L2
structure SteTxt (P : Program) (K : Frag) (mg : Str → Option Value) (C fI : Addr) : Prop where
  gC : mg "StoreError" = some (.ref C)
  ox : OexC K C
  noN : findIn K (.ref C) "rule" = some none
  iC : findIn K (.ref C) "__init__" = some (some (.ref fI))
  tC : typeIn K (.ref fI) = some (.type "function")
  sup : ks_superIn K C C "__init__" = some (some (.builtin "ValueError.__init__"))
  inB : subIn K (.ref C) (.type "ValueError") = some true
  mro : mroIn K C (.ref C) = some true
  cls : (clsIn K C).isSome = true
  noS : mg "super" = none
  tp : nsIn K cStatics "thirdparty.any" = some none
  top : (P.main.scope.names.lookup ("super" : Str)).isSome = false
  fn : ∃ (oc : Value) (od : Option Addr) (kV doc pm : Value) (an : Option Addr) (cda cc : Addr) (ct : Value) (osl : Array (Option Value)) (ccl cl : Value) (cdd cld : Option Addr) (vs : Array Value) (ccs csl : Array (Option Value)) (file : Str) (tf : Tok),
    K.lookup fI = some ⟨oc, od, .func (ksFn "__init__" "StoreError.__init__" (defArgs s_StoreError__init__) (defBody s_StoreError__init__) (defScope s_StoreError__init__) .none kV doc pm an (.ref cda) ct cc), osl⟩ ∧ codeIn K (.ref cda) "StoreError.__init__" = true ∧
    K.lookup cda = some ⟨ccl, cdd, .fields vs, ccs⟩ ∧ vs[2]? = some (.str file tf) ∧ ((P.main.file : Str) == file) = true ∧ K.lookup cc = some ⟨cl, cld, .cell (some (.ref C)), csl⟩
section
variable {P : Program} {w : World} {A : Around} {E : Value → Shared → Prop} {R : Result → Shared → Prop} {K : Frag} {mg mb : Str → Option Value} {C fI : Addr}
theorem call_wrapped {h : Heap} {g : Array GenState} {d : Drawn} {t : Nat} {os : OsState} {u e t0 : Addr} {rest : List Value} {Q : Value → Shared → Prop} {nm q : Str} {N : Addr} {bs bm : List Value} {sn : List Str} {sub : List Value} {ab : Bool} {col : Option Bool} {dd : Option Addr} {k0 k1 k2 k3 k5 : Option Value}
    (hC : h.get? C = some (excClassObj nm q C N bs bm true sn sub ab col dd k0 k1 k2 k3 k5 "ValueError.__new__")) (he : h.get? e = some (excO C t0)) (hu : h.get? u = some (kxs_mw "ValueError.__init__" e)) (hrest : rest.length ≤ sizeLine)
    (hq : ∀ h' t1, (∀ b o, b ≠ e → h.get? b = some o → h'.get? b = some o) → h'.get? e = some (excO C t1) → Q .none ⟨h', g, d, t, os⟩) :
    wpAny (model P w) A (call (.ref u) rest) Q E ⟨h, g, d, t, os⟩ := by
  refine wpAny_call (codeAny_of_tree ?_)
  show wpAny _ A.in1 (callAny (.ref u) _) _ _ _
  simp only [callAny]
  refine wpAny_bind (wpAny_load hu ?_)
  simp only [show (Value.type "method-wrapper" == Value.type "method" || Value.type "method-wrapper" == Value.type "builtin_function_or_method" || Value.type "method-wrapper" == Value.type "method-wrapper") = true by decide, if_true]
  refine KFB.if_so (by decide) ?_
  refine wpAny_bind (check_bound_init F.excBase_ValueError.toExcCallFacts hC he rfl ?_)
  refine wpAny_bind (wpAny_pure (wpAny_pure ?_))
  refine ⟨plainId_quiet F.excBase_ValueError.init.plain _, codeAny_builtin F.excBase_ValueError.initEntry ?_⟩
  refine exc_init_tree (cls := .ref C) (t0 := t0) (dv := none) (c2 := .none) (c3 := .none) (b4 := .bool false) he hrest fun h' k e' _ => ?_
  exact hq h' _ k e'
theorem no_cell : ∀ y ∈ (defScope s_StoreError__init__).names, y.2 ≠ .cell := by decide +kernel
theorem all_local (a b : Value) : ∀ y ∈ [(("self" : Str), a), (("rule" : Str), b)], (defScope s_StoreError__init__).names.lookup y.1 = some .local := by
  intro y hy
  rcases List.mem_cons.mp hy with e | hy
  · rw [e]; rfl
  rcases List.mem_cons.mp hy with e | hy
  · rw [e]; rfl
  cases hy
theorem ldl {M : Model} {s : Shared} {env : Env} {m : Str → Option Value} {x : Str} {pos : Pos} {v : Value} {Q : Value → Shared → Prop} (hn : s.heap.Ns env.locals m) (hv : m x = some v) (h : Q v s)
    (hk : env.scope.kind = .function := by rfl) (hl : env.kindOf x = some .local := by rfl) (hd : (x == ("__debug__" : Str)) = false := by decide) : wpAny M A (eval (.Name x pos) env) Q E s :=
  wpAny_Name (wpAny_loadName_local hk hl hn hv h) hd
theorem ste_init (T : SteTxt P K mg C fI) {s : Shared} {x t0 : Addr} {r : Str} {tk : Tok} (X : K.In s.heap) (hg : s.heap.Ns mainGlobals mg) (hb : s.heap.Ns builtinsNs mb) (hmb : mb "super" = some (.type "super")) (hlim : s.heap.NoLimit)
    (hx : s.heap.get? x = some (excO C t0)) (hnx : K.lookup x = none) (hr : r.length ≤ 1000) (hroom : A.depth < recursionLimit)
    (hq : ∀ h' tk' dx t1, (∀ b o, b ≠ x → s.heap.get? b = some o → h'.get? b = some o) → h'.get? x = some { cls := .ref C, dict := some dx, data := .fields #[.ref t1, .none, .none, .none, .bool false, .none] } →
      s.heap.objs.size ≤ dx → dx ≠ x → h'.Ns1 dx (fun y => if y = "rule" then some (.str r tk) else none) → R (.ok (.ret .none)) { s with heap := h', toks := tk' }) :
    codeAny (model P w) A (.call (.ref fI) ⟨[.ref x, .str r tk], []⟩) R s := by
  obtain ⟨oc, od, kV, doc, pm, an, cda, cc, ct, osl, ccl, cl, cdd, cld, vs, ccs, csl, file, tf, ho, hcd, hcode, hvs, hfile, hcell⟩ := T.fn
  obtain ⟨nm, q, N, bs, bm, sn, sub, ab, col, dd, k0, k1, k2, k3, k5, hC, hbm⟩ := T.ox.cls
  obtain ⟨cdC, hcl⟩ := Option.isSome_iff_exists.mp T.cls
  have hcl' : clsIn K C = some { name := nm, bases := bs, mro := .ref C :: bm, ns := N, qualname := q, hasDict := true, slotNames := sn, subclasses := sub, abstract := ab, collection := col, hasDel := false } := by unfold clsIn; rw [hC] <;> rfl
  refine ks_codeAny_call_defAt (args := ⟨[.ref x, .str r tk], []⟩) (binds := [("self", .ref x), ("rule", .str r tk)]) hroom (X _ _ ho) rfl hlim (codeRec_of X hcd) rfl (BindsTo.of_eq (by rfl)) no_cell (all_local _ _) (fun h₁ hns hk₁ => ?_) rfl rfl rfl
  obtain ⟨hh, g, d, t, os⟩ := s
  have X₁ : K.In h₁ := X.keeps hk₁
  have hx₁ := hk₁ _ _ hx
  have hxL : hh.objs.size ≠ x := Nat.ne_of_gt (Heap.lt_size hx)
  refine ks_wpAt_execs_cons (ks_wpAt_Expr_any (ks_wpAt_MethodCall ?_))
  refine ks_wpAt_super_base (f := fI) (cc := cda) (ar := { arg := "self", annotation := none, pos := ⟨6, 17, 6, 21⟩ }) (by rfl) (by rfl) (by decide) rfl (X₁ _ _ ho) rfl (by rfl) rfl (X₁ _ _ hcode) rfl hvs hfile T.top ?_
  refine ks_loadName_global (by rfl) (by rfl) (loadGlobal_builtin (hg.keeps hk₁) T.noS (hb.keeps hk₁) hmb ⟨rfl, ?_⟩)
  refine wpAny_loadName_free (by rfl) (by rfl) rfl ⟨_, X₁ _ _ hcell, rfl⟩ ?_
  refine wpAny_loadName_local (by rfl) (by rfl) hns (by rfl) ?_
  refine ks_wpAny_isType_cls (X₁ _ _ hC) rfl ⟨rfl, ?_⟩
  refine ks_wpAny_call_super (X₁ _ _ hC) rfl hx₁ rfl (fun c e => by cases e) (looks_mroIn X₁ T.mro) (fun h2 hso k2' => ?_)
  have X₂ : K.In h2 := X₁.keeps k2'
  have hx₂ := k2' _ _ hx₁
  have I₂ : InstAt h2 x (excO C t0) C none := ⟨hx₂, rfl, rfl, trivial⟩
  have hal : alongIn K "__init__" (((Value.ref C :: bm).dropWhile (· != .ref C)).drop 1) = some (some (.builtin "ValueError.__init__")) := by
    have z := T.sup
    unfold ks_superIn at z
    rw [hcl'] at z
    exact z
  refine kxs_getMethod kxs_ValueError hso (looks_opaque X₂ T.tp) (l₀ := Value.ref C :: bm) (fun A Q E s k q => wpAny_bind ((looks_clsIn X₂ hcl') A _ E s k (wpAny_pure q))) rfl X₂ hal (I₂.type.andThen (looks_subIn X₂ T.inB)) (ks_ne X₂ I₂ hcl') (by decide) ?_
  have hu : (h2.push (kxs_mw "ValueError.__init__" x)).get? h2.objs.size = some (kxs_mw "ValueError.__init__" x) := Heap.get?_push_size _ rfl
  have k3' : ∀ b o, h2.get? b = some o → (h2.push (kxs_mw "ValueError.__init__" x)).get? b = some o := fun b o e => Heap.get?_push_of_some _ e
  have hx₃ := k3' _ _ hx₂
  have k13 : ∀ b o, h₁.get? b = some o → (h2.push (kxs_mw "ValueError.__init__" x)).get? b = some o := fun b o e => k3' b o (k2' b o e)
  have hns3 := hns.keeps k13
  refine kxs_callWith (i := "ValueError.__init__") (x := x) (by rfl) (evalArgs_plain ?_)
  have tail : ∀ (y : Str) (ty : Tok) (tk2 : Nat) (Q : Value → Shared → Prop) (E : Value → Shared → Prop), (∀ h' t1, (∀ b o, b ≠ x → (h2.push (kxs_mw "ValueError.__init__" x)).get? b = some o → h'.get? b = some o) → h'.get? x = some (excO C t1) → Q .none ⟨h', g, d, tk2, os⟩) →
      KxsAt "ValueError.__init__" h2.objs.size x (h2.push (kxs_mw "ValueError.__init__" x)) ∧ wpAny (model P w) (A.deeper (callEnv (ksFn "__init__" "StoreError.__init__" (defArgs s_StoreError__init__) (defBody s_StoreError__init__) (defScope s_StoreError__init__) .none kV doc pm an (.ref cda) ct cc) hh.objs.size fI)) (call (.ref h2.objs.size) [.str y ty]) Q E ⟨h2.push (kxs_mw "ValueError.__init__" x), g, d, tk2, os⟩ := fun y ty tk2 Q E k =>
    ⟨hu, call_wrapped (k3' _ _ (k2' _ _ (hk₁ _ _ (by exact X _ _ hC)))) hx₃ hu (by rw [sizeLine_eq]; exact (by decide : 1 ≤ 16777216)) k⟩
  have after : ∀ (tk2 : Nat) (h' : Heap) (t1 : Addr), (∀ b o, b ≠ x → (h2.push (kxs_mw "ValueError.__init__" x)).get? b = some o → h'.get? b = some o) → h'.get? x = some (excO C t1) → True := fun _ _ _ _ _ => trivial
  refine spliced_cons ?_
  refine KFB.if_not rfl ?_
  refine wpAny_JoinedStr ?_
  refine Calls.Constant_str ⟨_, _, rfl, ?_, ?_⟩
  · exact Nat.le_trans (by decide +kernel : (Str.empty ++ ("the store breaks the rule " : Str)).length ≤ 100) (by decide)
  refine wpAny_FormattedValue_plain (ldl hns3 (v := .str r tk) (by rfl) ?_)
  have hsz : ((Str.empty ++ ("the store breaks the rule " : Str)) ++ r).length ≤ sizeLine := by
    rw [PySem.Str.length_append]
    have e1 : (Str.empty ++ ("the store breaks the rule " : Str)).length ≤ 100 := by decide +kernel
    rw [sizeLine_eq]
    omega
  have hrz : r.length ≤ sizeLine := by rw [sizeLine_eq]; omega
  refine wpAny_formatField_str ⟨_, _, rfl, hsz, hsz, ?_⟩ ⟨_, _, rfl, hsz, hsz, ?_⟩ hrz
  all_goals
    refine spliced_nil ?_
    refine tail _ _ _ _ _ fun h' t1 k hx' => ?_
    have X' : K.In h' := fun a o e => k a o (fun z => by rw [z, hnx] at e; cases e) (k3' _ _ (X₂ _ _ e))
    obtain ⟨oL, es, ep, hL, hrest⟩ := hns3
    have hL' := k _ _ hxL hL
    have hns' : h'.Ns hh.objs.size (fun y => List.lookup y [(("self" : Str), Value.ref x), (("rule" : Str), Value.str r tk)].reverse) := ⟨oL, es, ep, hL', hrest⟩
    refine ks_wpAt_execs_cons (ks_wpAt_Assign_Attr ?_)
    refine wpAt_of_wpAny (ldl hns' (v := .str r tk) (by rfl) ?_)
    refine ldl hns' (v := .ref x) (by rfl) ?_
    refine set_plain X' (ox := excO C t1) (od := none) ⟨hx', rfl, rfl, trivial⟩ T.ox.sa ?_
    refine exc_osa X' hx' hcl' (show refsVE (.ref C :: bm) = true from hbm) rfl T.noN (fun h₃ tk₃ dx k₃ dn dne hx₃' hn₃ => ?_)
    refine wpAt_of_wpAny (wpAny_execs_nil ?_)
    exact hq h₃ tk₃ dx t1 (fun b o hb e => k₃ b o hb (k b o hb (k3' _ _ (k2' _ _ (hk₁ _ _ e))))) hx₃' (Nat.le_trans (Nat.le_of_lt (Heap.lt_size hL')) dn) dne hn₃
end
end S2.SE
namespace S2.SE
open PySem PySem.W PySem.Calls PyProof.Rows PySem.HandSPX L2
theorem boot_super : bootBuiltins "super" = some (.type "super") := by decide +kernel
/-- a made StoreError -/
structure Made (h h' : Heap) (e C d : Addr) (v : Value) : Prop where
  keep : ∀ b o, h.get? b = some o → h'.get? b = some o
  new : h.objs.size ≤ e
  obj : ∃ oe vs, h'.get? e = some oe ∧ oe.cls = .ref C ∧ oe.dict = some d ∧ oe.data = .fields vs ∧ vs[1]? = some .none
  dbig : h.objs.size ≤ d
  dne : d ≠ e
  ns : h'.Ns1 d (fun y => if y = "rule" then some v else none)
section
variable {P : Program} {w : World} {A : Around} {R : Result → Shared → Prop} {s : Shared} {K : Frag} {mg mb : Str → Option Value} {C fI : Addr}
theorem ste_made (T : SteTxt P K mg C fI) {r : Str} {tk : Tok} (X : K.In s.heap) (hg : s.heap.Ns mainGlobals mg) (hb : s.heap.Ns builtinsNs mb) (hmb : mb "super" = some (.type "super")) (hlim : s.heap.NoLimit) (hr : r.length ≤ 1000) (hroom : A.depth + 1 < recursionLimit)
    (hq : ∀ h' tk' e d, Made s.heap h' e C d (.str r tk) → R (.ok (.ret (.ref e))) { s with heap := h', toks := tk' }) :
    codeAny (model P w) A (.call (.ref C) ⟨[.str r tk], []⟩) R s := by
  obtain ⟨nm, q, N, bs, bm, sn, sub, ab, col, dd, k0, k1, k2, k3, k5, hC, hbm⟩ := T.ox.cls
  obtain ⟨hp, g, dr, t, os⟩ := s
  have k : ∀ b o, hp.get? b = some o → ((hp.push (kdv_tup [.str r tk])).push (excO C hp.objs.size)).get? b = some o := fun b o e => Heap.get?_push_of_some _ (Heap.get?_push_of_some _ e)
  have hget : ((hp.push (kdv_tup [.str r tk])).push (excO C hp.objs.size)).get? (hp.objs.size + 1) = some (excO C hp.objs.size) := by heap_get
  have hnx : K.lookup (hp.objs.size + 1) = none := by
    cases e : K.lookup (hp.objs.size + 1) with
    | none => rfl
    | some o =>
      have z : hp.get? (hp.objs.size + 1) = some o := X _ _ e
      exact absurd (Nat.lt_of_succ_lt (Heap.lt_size z)) (Nat.lt_irrefl _)
  refine call_own F.excBase_ValueError (fun X => refsVE_contains X bm hbm) (X _ _ hC) (looks_findIn X T.iC) (fun self => bind_fn X self T.tC) (by rw [sizeLine_eq]; exact (by decide : 1 ≤ 16777216)) ?_
  refine ste_init (s := ⟨(hp.push (kdv_tup [.str r tk])).push (excO C hp.objs.size), g, dr, t, os⟩) T (X.keeps k) (hg.keeps k) (hb.keeps k) hmb (hlim.keeps k) hget hnx hr ?_ fun h' tk' dx t1 k' hx dn dne hns => ?_
  · show A.depth + 1 < recursionLimit
    exact hroom
  · have old : ∀ b o, hp.get? b = some o → h'.get? b = some o := fun b o e => k' b o (Nat.ne_of_lt (Nat.lt_succ_of_lt (Heap.lt_size e))) (k b o e)
    have z : hp.objs.size + 1 + 1 ≤ dx := by
      first
        | (simpa only [Heap.size_push] using dn)
        | exact dn
        | (have q := dn; rw [Heap.size_push, Heap.size_push] at q; exact q)
    exact ⟨rfl, hq h' tk' (hp.objs.size + 1) dx ⟨old, Nat.le_succ _, ⟨_, _, hx, rfl, rfl, rfl, rfl⟩, Nat.le_trans (Nat.le_trans (Nat.le_succ _) (Nat.le_succ _)) z, dne, hns⟩⟩
end
section
variable {X : Cx} {C fI : Addr}
theorem relO_rule {v : V} {v' : Value} (r : RelV v v') (f : Str) : RelO (List.lookup f [(("rule" : Str), v)]) (if f = "rule" then some v' else none) := by
  by_cases hw : f = "rule"
  · subst hw
    rw [if_pos rfl]
    have q : List.lookup ("rule" : Str) [(("rule" : Str), v)] = some v := by simp [List.lookup]
    rw [q]
    exact r
  · rw [if_neg hw]
    have qw : (f == ("rule" : Str)) = false := by simpa using hw
    have q2 : List.lookup f [(("rule" : Str), v)] = none := by simp [List.lookup, qw]
    rw [q2]
    trivial
/-- StoreError(e) -/
def tMkSte (C : Addr) (ta : TA) : L2.St → Hp → XK → Prop := fun σ H Q => ta σ H fun vs H1 => ∃ r : Str, vs = [.str r] ∧ r.length ≤ 1000 ∧ ∀ d, H1 d = none → Q (.ref C) (some d) (upd H1 d (.xd [(("rule" : Str), .str r)]))
theorem pmk_ste {a : Expr} {ta : TA} {p pos : Pos} {k : Nat} (T : SteTxt X.prog X.K X.mg C fI) (hr : Room k X.A) (ha : PA X [a] ta) (hg : Gl X "StoreError" := by rfl)
    (he : starEach (a :: []) X.env = (false, eval a X.env) :: starEach [] X.env := by rfl) (hpl : (backTo pos (starEach [] X.env)).any (·.1) = false := by rfl) :
    PMk X (.Call (.Name "StoreError" p) [a] [] pos) (tMkSte C ta) := by
  intro pins s σ H Q I h
  refine wpAny_Call_Name_kw (ld_glob I hg T.gC ?_)
  refine PySem.W.callWith_K (h₀ := X.base) I.ok.mod.kin T.ox.kC (thn (ha.run pos pins s σ H _ I h) fun us s1 hh => ?_) he hpl
  obtain ⟨vs, H1, I1, r1, r, ev, hsz, q1⟩ := hh
  subst ev
  refine ⟨I1.kIn, ?_⟩
  cases r1 with
  | cons rv rn =>
    rename_i v' us'
    cases rn
    obtain ⟨tk0, rfl⟩ := rv
    show wpAny _ _ (call (.ref C) [.str r tk0]) _ _ _
    have hlim := I1.nolimit
    obtain ⟨mb, b1, b2⟩ := I1.mod.blt
    have hgl : s1.heap.Ns mainGlobals X.mg := I1.mod.glob.keeps I1.bk
    have hbl : s1.heap.Ns builtinsNs mb := b1.keeps I1.bk
    have hX := I1.kIn
    obtain ⟨hp, g, dr, tk, os⟩ := s1
    refine wpAny_call (ste_made T hX hgl hbl ((b2 _ (by decide)).trans boot_super) hlim hsz (by have := hr.dp; omega) fun h' tk' e d M => ?_)
    show MkP X pins σ Q (.ref e) ⟨h', g, dr, tk', os⟩
    obtain ⟨oe, fv, hoe, hc, hd, hdat, h1⟩ := M.obj
    have hns := M.ns
    obtain ⟨G', g1, g2⟩ := restrict h' fun b => decide (b ≠ e)
    have gk : ∀ b, b ≠ e → G'.get? b = h'.get? b := fun b hb => g1 b (decide_eq_true hb)
    have ge : G'.get? e = none := g2 e (by simp)
    have old : ∀ b o, hp.get? b = some o → G'.get? b = some o := fun b o q => (gk b (Nat.ne_of_lt (Nat.lt_of_lt_of_le (Heap.lt_size q) M.new))).trans (M.keep b o q)
    have ob : ObjOk X.prog X.w (upd H1 d (.xd [(("rule" : Str), .str r)])) G' d (.xd [(("rule" : Str), .str r)]) :=
      ⟨_, hns.at (fun o q => (gk d M.dne).trans q), fun f => relO_rule (v := .str r) ⟨tk0, rfl⟩ f⟩
    have J : Inv X pins σ (upd H1 d (.xd [(("rule" : Str), .str r)])) ⟨G', g, dr, tk', os⟩ := I1.laid (t' := tk') old M.dbig ob
    refine ⟨e, oe, fv, ⟨G', g, dr, tk', os⟩, _, .ref C, some d, rfl, J, fun b o q => ?_, ge, hoe, ⟨hc, hd⟩, hdat, h1, ?_, rfl, I1.bare, raises_own T.ox.exC T.ox.tyC, q1 d (I1.hok.fresh M.dbig)⟩
    · by_cases hb : b = e
      · have q' : G'.get? b = some o := q
        rw [hb, ge] at q'; cases q'
      · exact (gk b hb).symm.trans q
    · rw [upd_ne (Ne.symm M.dne)]
      exact I1.hok.fresh M.new
def tRaiseSte (C : Addr) (W : WX) (ta : TA) : TS := fun _ σ H => tMkSte C ta σ H fun cls d H' => W cls d σ H'
theorem ps_raiseSte {a : Expr} {ta : TA} {W : WX} {p pos pos2 : Pos} {k : Nat} (hc : X.calm = true) (T : SteTxt X.prog X.K X.mg C fI) (hr : Room k X.A) (tk : L2.Takes X W) (ha : PA X [a] ta) (hg : Gl X "StoreError" := by rfl)
    (he : starEach (a :: []) X.env = (false, eval a X.env) :: starEach [] X.env := by rfl) (hpl : (backTo pos (starEach [] X.env)).any (·.1) = false := by rfl) :
    PS X (.Raise (some (.Call (.Name "StoreError" p) [a] [] pos)) none pos2) (tRaiseSte C W ta) := ps_raise hc tk (pmk_ste T hr ha hg he hpl)
end
end S2.SE
namespace S2
open PySem L2
/-! ### the data: expressions, statements, what a body may use -/
inductive Op where | read | add | sub | mul | eq | lt | and | or
  deriving DecidableEq, Inhabited
def Op.name : Op → Str
  | .read => "read" | .add => "+" | .sub => "-" | .mul => "*" | .eq => "==" | .lt => "<" | .and => "and" | .or => "or"
def argName : Bool → Str
  | true => "value" | false => "key"
def oneName : Bool → Str
  | true => "sum" | false => "not"
inductive Ex where
  | num (w : Int) | var (v : Int) | arg (b : Bool) | one (o : Bool) (a : Ex) | two (o : Op) (a b : Ex)
inductive Sm where
  | set (v : Int) (e : Ex) | write (e : Ex) (ws : List Ex) | barrier | ite (e : Ex) (a b : List Sm) | loop (v n : Int) (b : List Sm)
structure Sc where
  width : Int
  variables : Int
  args : List Str
  writes : Bool
/-! ### how the heap holds them -/
def ExAt (H : Hp) : Ex → V → Prop
  | .num w, v => ∃ p, v = .ref p ∧ H p = some (.tup [.str "num", .int w])
  | .var i, v => ∃ p, v = .ref p ∧ H p = some (.tup [.str "var", .int i])
  | .arg b, v => ∃ p, v = .ref p ∧ H p = some (.tup [.str (argName b)])
  | .one o a, v => ∃ p x, v = .ref p ∧ H p = some (.tup [.str (oneName o), x]) ∧ ExAt H a x
  | .two o a b, v => ∃ p x y, v = .ref p ∧ H p = some (.tup [.str o.name, x, y]) ∧ ExAt H a x ∧ ExAt H b y
theorem ExAt.same {H H' : Hp} (s : Same H H') : ∀ {e : Ex} {v : V}, ExAt H e v → ExAt H' e v
  | .num _, _, ⟨p, h1, h2⟩ => ⟨p, h1, s _ _ h2⟩
  | .var _, _, ⟨p, h1, h2⟩ => ⟨p, h1, s _ _ h2⟩
  | .arg _, _, ⟨p, h1, h2⟩ => ⟨p, h1, s _ _ h2⟩
  | .one _ _, _, ⟨p, x, h1, h2, h3⟩ => ⟨p, x, h1, s _ _ h2, h3.same s⟩
  | .two _ _ _, _, ⟨p, x, y, h1, h2, h3, h4⟩ => ⟨p, x, y, h1, s _ _ h2, h3.same s, h4.same s⟩
def ExsAt (H : Hp) : List Ex → List V → Prop
  | [], [] => True
  | e :: r, x :: xs => ExAt H e x ∧ ExsAt H r xs
  | _, _ => False
theorem ExsAt.same {H H' : Hp} (s : Same H H') : ∀ {es : List Ex} {xs : List V}, ExsAt H es xs → ExsAt H' es xs
  | [], [], _ => trivial
  | _ :: _, _ :: _, ⟨h1, h2⟩ => ⟨h1.same s, h2.same s⟩
  | [], _ :: _, h => h.elim
  | _ :: _, [], h => h.elim
theorem ExsAt.len {H : Hp} : ∀ {es : List Ex} {xs : List V}, ExsAt H es xs → xs.length = es.length
  | [], [], _ => rfl
  | _ :: _, _ :: _, ⟨_, h2⟩ => congrArg (· + 1) h2.len
  | [], _ :: _, h => h.elim
  | _ :: _, [], h => h.elim
theorem ExsAt.get {H : Hp} : ∀ {es : List Ex} {xs : List V} {i : Nat} {x : V}, ExsAt H es xs → xs[i]? = some x → ∃ e, es[i]? = some e ∧ ExAt H e x
  | [], [], i, x, _, e => by cases i <;> cases e
  | a :: _, y :: _, 0, x, ⟨h1, _⟩, e => ⟨a, rfl, by cases e; exact h1⟩
  | _ :: _, _ :: _, i + 1, x, ⟨_, h2⟩, e => h2.get (i := i) e
  | [], _ :: _, _, _, h, _ => h.elim
  | _ :: _, [], _, _, h, _ => h.elim
theorem ExsAt.app {H : Hp} : ∀ {es fs : List Ex} {xs ys : List V}, ExsAt H es xs → ExsAt H fs ys → ExsAt H (es ++ fs) (xs ++ ys)
  | [], _, [], _, _, h => h
  | _ :: _, _, _ :: _, _, ⟨h1, h2⟩, h => ⟨h1, h2.app h⟩
  | [], _, _ :: _, _, h, _ => h.elim
  | _ :: _, _, [], _, h, _ => h.elim
mutual
def SmAt (H : Hp) : Sm → V → Prop
  | .set i e, v => ∃ p x, v = .ref p ∧ H p = some (.tup [.str "set", .int i, x]) ∧ ExAt H e x
  | .write e ws, v => ∃ p x l xs, v = .ref p ∧ H p = some (.tup [.str "write", x, .ref l]) ∧ ExAt H e x ∧ H l = some (.lst xs) ∧ ExsAt H ws xs
  | .barrier, v => ∃ p, v = .ref p ∧ H p = some (.tup [.str "barrier"])
  | .ite e a b, v => ∃ p x la xa lb xb, v = .ref p ∧ H p = some (.tup [.str "if", x, .ref la, .ref lb]) ∧ ExAt H e x ∧ H la = some (.lst xa) ∧ SmsAt H a xa ∧ H lb = some (.lst xb) ∧ SmsAt H b xb
  | .loop i n b, v => ∃ p l xs, v = .ref p ∧ H p = some (.tup [.str "loop", .int i, .int n, .ref l]) ∧ H l = some (.lst xs) ∧ SmsAt H b xs
def SmsAt (H : Hp) : List Sm → List V → Prop
  | [], [] => True
  | s :: r, x :: xs => SmAt H s x ∧ SmsAt H r xs
  | _, _ => False
end
mutual
theorem SmAt.same {H H' : Hp} (s : Same H H') : ∀ {e : Sm} {v : V}, SmAt H e v → SmAt H' e v
  | .set _ _, _, h => by
    unfold SmAt at h ⊢
    obtain ⟨p, x, h1, h2, h3⟩ := h
    exact ⟨p, x, h1, s _ _ h2, h3.same s⟩
  | .write _ _, _, h => by
    unfold SmAt at h ⊢
    obtain ⟨p, x, l, xs, h1, h2, h3, h4, h5⟩ := h
    exact ⟨p, x, l, xs, h1, s _ _ h2, h3.same s, s _ _ h4, h5.same s⟩
  | .barrier, _, h => by
    unfold SmAt at h ⊢
    obtain ⟨p, h1, h2⟩ := h
    exact ⟨p, h1, s _ _ h2⟩
  | .ite _ _ _, _, h => by
    unfold SmAt at h ⊢
    obtain ⟨p, x, la, xa, lb, xb, h1, h2, h3, h4, h5, h6, h7⟩ := h
    exact ⟨p, x, la, xa, lb, xb, h1, s _ _ h2, h3.same s, s _ _ h4, SmsAt.same s h5, s _ _ h6, SmsAt.same s h7⟩
  | .loop _ _ _, _, h => by
    unfold SmAt at h ⊢
    obtain ⟨p, l, xs, h1, h2, h3, h4⟩ := h
    exact ⟨p, l, xs, h1, s _ _ h2, s _ _ h3, SmsAt.same s h4⟩
theorem SmsAt.same {H H' : Hp} (s : Same H H') : ∀ {es : List Sm} {xs : List V}, SmsAt H es xs → SmsAt H' es xs
  | [], [], _ => by unfold SmsAt; trivial
  | _ :: _, _ :: _, h => by
    unfold SmsAt at h ⊢
    exact ⟨SmAt.same s h.1, SmsAt.same s h.2⟩
  | [], _ :: _, h => by unfold SmsAt at h; exact h.elim
  | _ :: _, [], h => by unfold SmsAt at h; exact h.elim
end
theorem SmsAt.nil {H : Hp} : SmsAt H [] [] := by unfold SmsAt; trivial
theorem SmsAt.cons {H : Hp} {s : Sm} {r : List Sm} {x : V} {xs : List V} (h1 : SmAt H s x) (h2 : SmsAt H r xs) : SmsAt H (s :: r) (x :: xs) := by unfold SmsAt; exact ⟨h1, h2⟩
theorem SmsAt.un {H : Hp} {s : Sm} {r : List Sm} {x : V} {xs : List V} (h : SmsAt H (s :: r) (x :: xs)) : SmAt H s x ∧ SmsAt H r xs := by unfold SmsAt at h; exact h
theorem SmsAt.len {H : Hp} : ∀ {es : List Sm} {xs : List V}, SmsAt H es xs → xs.length = es.length
  | [], [], _ => rfl
  | _ :: _, _ :: _, h => congrArg (· + 1) h.un.2.len
  | [], _ :: _, h => by unfold SmsAt at h; exact h.elim
  | _ :: _, [], h => by unfold SmsAt at h; exact h.elim
theorem SmsAt.get {H : Hp} : ∀ {es : List Sm} {xs : List V} {i : Nat} {x : V}, SmsAt H es xs → xs[i]? = some x → ∃ e, es[i]? = some e ∧ SmAt H e x
  | [], [], i, x, _, e => by cases i <;> cases e
  | a :: _, y :: _, 0, x, h, e => ⟨a, rfl, by cases e; exact h.un.1⟩
  | _ :: _, _ :: _, i + 1, x, h, e => h.un.2.get (i := i) e
  | [], _ :: _, _, _, h, _ => by unfold SmsAt at h; exact h.elim
  | _ :: _, [], _, _, h, _ => by unfold SmsAt at h; exact h.elim
theorem SmsAt.app {H : Hp} : ∀ {es fs : List Sm} {xs ys : List V}, SmsAt H es xs → SmsAt H fs ys → SmsAt H (es ++ fs) (xs ++ ys)
  | [], _, [], _, _, h => h
  | _ :: _, _, _ :: _, _, h', h => .cons h'.un.1 (h'.un.2.app h)
  | [], _, _ :: _, _, h, _ => by unfold SmsAt at h; exact h.elim
  | _ :: _, _, [], _, h, _ => by unfold SmsAt at h; exact h.elim
/-- a list of statements as a value -/
def BdV (H : Hp) (b : List Sm) (v : V) : Prop := ∃ p xs, v = .ref p ∧ H p = some (.lst xs) ∧ SmsAt H b xs
theorem BdV.same {H H' : Hp} (s : Same H H') {b : List Sm} {v : V} (h : BdV H b v) : BdV H' b v := by
  obtain ⟨p, xs, h1, h2, h3⟩ := h
  exact ⟨p, xs, h1, s _ _ h2, h3.same s⟩
/-- a list of data, one by one -/
def Each {α : Type} (R : Hp → α → V → Prop) (H : Hp) : List α → List V → Prop
  | [], [] => True
  | a :: r, x :: xs => R H a x ∧ Each R H r xs
  | _, _ => False
section
variable {α : Type} {R : Hp → α → V → Prop} {H H' : Hp}
theorem Each.mono (m : ∀ a v, R H a v → R H' a v) : ∀ {es : List α} {xs : List V}, Each R H es xs → Each R H' es xs
  | [], [], _ => trivial
  | _ :: _, _ :: _, ⟨h1, h2⟩ => ⟨m _ _ h1, Each.mono m h2⟩
  | [], _ :: _, h => h.elim
  | _ :: _, [], h => h.elim
theorem Each.len : ∀ {es : List α} {xs : List V}, Each R H es xs → xs.length = es.length
  | [], [], _ => rfl
  | _ :: _, _ :: _, ⟨_, h2⟩ => congrArg (· + 1) (Each.len h2)
  | [], _ :: _, h => h.elim
  | _ :: _, [], h => h.elim
theorem Each.get : ∀ {es : List α} {xs : List V} {i : Nat} {x : V}, Each R H es xs → xs[i]? = some x → ∃ e, es[i]? = some e ∧ R H e x
  | [], [], i, x, _, e => by cases i <;> cases e
  | a :: _, y :: _, 0, x, ⟨h1, _⟩, e => ⟨a, rfl, by cases e; exact h1⟩
  | _ :: _, _ :: _, i + 1, x, ⟨_, h2⟩, e => Each.get (i := i) h2 e
  | [], _ :: _, _, _, h, _ => h.elim
  | _ :: _, [], _, _, h, _ => h.elim
theorem Each.app : ∀ {es fs : List α} {xs ys : List V}, Each R H es xs → Each R H fs ys → Each R H (es ++ fs) (xs ++ ys)
  | [], _, [], _, _, h => h
  | _ :: _, _, _ :: _, _, ⟨h1, h2⟩, h => ⟨h1, Each.app h2 h⟩
  | [], _, _ :: _, _, h, _ => h.elim
  | _ :: _, _, [], _, h, _ => h.elim
end
theorem Each.imp {α : Type} {R R' : Hp → α → V → Prop} {H H' : Hp} (m : ∀ a v, R H a v → R' H' a v) : ∀ {es : List α} {xs : List V}, Each R H es xs → Each R' H' es xs
  | [], [], _ => trivial
  | _ :: _, _ :: _, ⟨h1, h2⟩ => ⟨m _ _ h1, Each.imp m h2⟩
  | [], _ :: _, h => h.elim
  | _ :: _, [], h => h.elim
theorem exsEach {H : Hp} : ∀ {es : List Ex} {xs : List V}, ExsAt H es xs ↔ Each ExAt H es xs
  | [], [] => Iff.rfl
  | _ :: _, _ :: _ => by
    show _ ∧ _ ↔ _ ∧ _
    rw [exsEach]
  | [], _ :: _ => Iff.rfl
  | _ :: _, [] => Iff.rfl
/-! ### the mirror of the checks -/
def fst : Option Str → Option Str → Option Str
  | some r, _ => some r
  | none, b => b
def dep : Ex → Nat
  | .num _ => 1 | .var _ => 1 | .arg _ => 1
  | .one _ a => 1 + dep a
  | .two _ a b => 1 + max (dep a) (dep b)
def parts : Ex → List Ex
  | .one _ a => [a]
  | .two _ a b => [a, b]
  | _ => []
def chkV (S : Sc) (i : Int) : Option Str := if 0 ≤ i ∧ i < S.variables then none else some "variable"
def chkL (S : Sc) : Ex → Option Str
  | .num w => if 0 ≤ w ∧ w < 16 then none else some "word"
  | .var i => chkV S i
  | .arg b => if inV (.str (argName b)) (S.args.map V.str) = true then none else some "argument"
  | .one _ a => chkL S a
  | .two _ a b => fst (chkL S a) (chkL S b)
def chkE (S : Sc) (e : Ex) : Option Str := if 5 < dep e then some "size" else chkL S e
def chkEs (S : Sc) : List Ex → Option Str
  | [] => none
  | e :: r => fst (chkE S e) (chkEs S r)
def inner : Sm → List (List Sm)
  | .ite _ a b => [a, b]
  | .loop _ _ b => [b]
  | _ => []
/-- a statement without the statements inside it -/
def chkS (S : Sc) : Sm → Option Str
  | .set i e => fst (chkV S i) (chkE S e)
  | .write e ws => fst (if S.writes = true then none else some "write") (fst (chkE S e) (fst (if (ws.length : Int) = S.width then none else some "width") (chkEs S ws)))
  | .barrier => if S.writes = true then none else some "write"
  | .ite e _ _ => chkE S e
  | .loop i n _ => fst (chkV S i) (if 1 ≤ n ∧ n ≤ 8 then none else some "size")
mutual
/-- a statement and the statements inside it -/
def chkSt (S : Sc) : Sm → Option Str
  | .set i e => chkS S (.set i e)
  | .write e ws => chkS S (.write e ws)
  | .barrier => chkS S .barrier
  | .ite e a b => fst (chkS S (.ite e a b)) (fst (chkB S a) (chkB S b))
  | .loop i n b => fst (chkS S (.loop i n b)) (chkB S b)
def chkB (S : Sc) : List Sm → Option Str
  | [] => none
  | s :: r => fst (chkSt S s) (chkB S r)
end
def chkBs (S : Sc) : List (List Sm) → Option Str
  | [] => none
  | b :: r => fst (chkB S b) (chkBs S r)
theorem fst_none (a : Option Str) : fst a none = a := by cases a <;> rfl
theorem chkSt_eq (S : Sc) (s : Sm) : chkSt S s = fst (chkS S s) (chkBs S (inner s)) := by
  cases s with
  | set i e => unfold chkSt inner chkBs; rw [fst_none]
  | write e ws => unfold chkSt inner chkBs; rw [fst_none]
  | barrier => unfold chkSt inner chkBs; rw [fst_none]
  | ite e a b => unfold chkSt; show _ = fst _ (fst (chkB S a) (fst (chkB S b) none)); rw [fst_none]
  | loop i n b => unfold chkSt; show _ = fst _ (fst (chkB S b) none); rw [fst_none]
theorem chkB_nil (S : Sc) : chkB S [] = none := by unfold chkB; rfl
theorem chkB_cons (S : Sc) (s : Sm) (r : List Sm) : chkB S (s :: r) = fst (chkSt S s) (chkB S r) := by rw [chkB]
mutual
def hgtS : Sm → Nat
  | .ite _ a b => max (hgt a) (hgt b)
  | .loop _ _ b => hgt b
  | _ => 0
/-- how deep a body is nested, itself one deep -/
def hgt : List Sm → Nat
  | [] => 1
  | s :: r => max (1 + hgtS s) (hgt r)
end
mutual
def cntS : Sm → Nat
  | .ite _ a b => 1 + (cnt a + cnt b)
  | .loop _ _ b => 1 + cnt b
  | _ => 1
/-- how many statements, the nested ones too -/
def cnt : List Sm → Nat
  | [] => 0
  | s :: r => cntS s + cnt r
end
mutual
def lpsS : Sm → Nat
  | .ite _ a b => max (lps a) (lps b)
  | .loop _ _ b => 1 + lps b
  | _ => 0
/-- how deep loops are nested -/
def lps : List Sm → Nat
  | [] => 0
  | s :: r => max (lpsS s) (lps r)
end
def around : Sm → Nat → Nat
  | .loop _ _ _, n => n + 1
  | _, n => n
/-- the bodies directly below, each with the loops around it -/
def belowS (s : Sm) (n : Nat) : List (List Sm × Nat) := (inner s).map fun b => (b, around s n)
def below : List (List Sm × Nat) → List (List Sm × Nat)
  | [] => []
  | (b, n) :: r => (b.flatMap fun s => belowS s n) ++ below r
def lens : List (List Sm × Nat) → Nat
  | [] => 0
  | (b, _) :: r => b.length + lens r
/-- k layers from here -/
def fitsL : Nat → Nat → List (List Sm × Nat) → Bool
  | 0, _, L => L.isEmpty
  | k + 1, many, L => if many + lens L > 60 ∨ L.any (fun p => decide (p.2 > 2)) = true then false else fitsL k (many + lens L) (below L)
def fits (b : List Sm) : Bool := fitsL 4 0 [(b, 0)]
def chkBody (S : Sc) (b : List Sm) : Option Str := fst (if fits b = true then none else some "size") (chkB S b)
end S2
namespace S2
open PySem L2
/-- where each def stands -/
structure Defs where
  fcheck : Addr
  dcheck : FuncData
  fdepth : Addr
  ddepth : FuncData
  frequire : Addr
  drequire : FuncData
  fcheck_get : Addr
  dcheck_get : FuncData
  fcheck_body : Addr
  dcheck_body : FuncData
  ffits : Addr
  dfits : FuncData
  fbodies_below : Addr
  dbodies_below : FuncData
  fbodies_in : Addr
  dbodies_in : FuncData
  fcheck_statements : Addr
  dcheck_statements : FuncData
  fcheck_statement : Addr
  dcheck_statement : FuncData
  fcheck_write : Addr
  dcheck_write : FuncData
  fcheck_variable : Addr
  dcheck_variable : FuncData
  fcheck_expression : Addr
  dcheck_expression : FuncData
  ftoo_deep : Addr
  dtoo_deep : FuncData
  fexpressions_below : Addr
  dexpressions_below : FuncData
  fexpressions_in : Addr
  dexpressions_in : FuncData
  fcheck_leaves : Addr
  dcheck_leaves : FuncData
  f_law_state : Addr
  d_law_state : FuncData
  f_law_draw : Addr
  d_law_draw : FuncData
  f_law_expr : Addr
  d_law_expr : FuncData
  f_law_statement : Addr
  d_law_statement : FuncData
  f_law_body : Addr
  d_law_body : FuncData
  f_law_store : Addr
  d_law_store : FuncData
  f_law_depth : Addr
  d_law_depth : FuncData
  f_law_large : Addr
  d_law_large : FuncData
  flaw : Addr
  dlaw : FuncData
  cScope : Addr
  fScope : Addr
  dScope : FuncData
  cErr : Addr
  fErr : Addr
  leaves : Addr
/-- what the top has written -/
structure Ok (P : Program) (K : PySem.W.Frag) (mg : Str → Option Value) (D : Defs) : Prop where
  Fcheck : Fun K "check" "check" s_check D.fcheck D.dcheck
  bcheck : Binds K D.dcheck ["store"] []
  mcheck : mg "check" = some (.ref D.fcheck)
  Fdepth : Fun K "depth" "depth" s_depth D.fdepth D.ddepth
  bdepth : Binds K D.ddepth ["e"] []
  mdepth : mg "depth" = some (.ref D.fdepth)
  Frequire : Fun K "require" "require" s_require D.frequire D.drequire
  brequire : Binds K D.drequire ["kept", "rule"] []
  mrequire : mg "require" = some (.ref D.frequire)
  Fcheck_get : Fun K "check_get" "check_get" s_check_get D.fcheck_get D.dcheck_get
  bcheck_get : Binds K D.dcheck_get ["get", "scope"] []
  mcheck_get : mg "check_get" = some (.ref D.fcheck_get)
  Fcheck_body : Fun K "check_body" "check_body" s_check_body D.fcheck_body D.dcheck_body
  bcheck_body : Binds K D.dcheck_body ["body", "scope"] []
  mcheck_body : mg "check_body" = some (.ref D.fcheck_body)
  Ffits : Fun K "fits" "fits" s_fits D.ffits D.dfits
  bfits : Binds K D.dfits ["body"] []
  mfits : mg "fits" = some (.ref D.ffits)
  Fbodies_below : Fun K "bodies_below" "bodies_below" s_bodies_below D.fbodies_below D.dbodies_below
  bbodies_below : Binds K D.dbodies_below ["layer"] []
  mbodies_below : mg "bodies_below" = some (.ref D.fbodies_below)
  Fbodies_in : Fun K "bodies_in" "bodies_in" s_bodies_in D.fbodies_in D.dbodies_in
  bbodies_in : Binds K D.dbodies_in ["statement"] []
  mbodies_in : mg "bodies_in" = some (.ref D.fbodies_in)
  Fcheck_statements : Fun K "check_statements" "check_statements" s_check_statements D.fcheck_statements D.dcheck_statements
  bcheck_statements : Binds K D.dcheck_statements ["body", "scope"] []
  mcheck_statements : mg "check_statements" = some (.ref D.fcheck_statements)
  Fcheck_statement : Fun K "check_statement" "check_statement" s_check_statement D.fcheck_statement D.dcheck_statement
  bcheck_statement : Binds K D.dcheck_statement ["statement", "scope"] []
  mcheck_statement : mg "check_statement" = some (.ref D.fcheck_statement)
  Fcheck_write : Fun K "check_write" "check_write" s_check_write D.fcheck_write D.dcheck_write
  bcheck_write : Binds K D.dcheck_write ["statement", "scope"] []
  mcheck_write : mg "check_write" = some (.ref D.fcheck_write)
  Fcheck_variable : Fun K "check_variable" "check_variable" s_check_variable D.fcheck_variable D.dcheck_variable
  bcheck_variable : Binds K D.dcheck_variable ["v", "scope"] []
  mcheck_variable : mg "check_variable" = some (.ref D.fcheck_variable)
  Fcheck_expression : Fun K "check_expression" "check_expression" s_check_expression D.fcheck_expression D.dcheck_expression
  bcheck_expression : Binds K D.dcheck_expression ["e", "scope"] []
  mcheck_expression : mg "check_expression" = some (.ref D.fcheck_expression)
  Ftoo_deep : Fun K "too_deep" "too_deep" s_too_deep D.ftoo_deep D.dtoo_deep
  btoo_deep : Binds K D.dtoo_deep ["e"] []
  mtoo_deep : mg "too_deep" = some (.ref D.ftoo_deep)
  Fexpressions_below : Fun K "expressions_below" "expressions_below" s_expressions_below D.fexpressions_below D.dexpressions_below
  bexpressions_below : Binds K D.dexpressions_below ["layer"] []
  mexpressions_below : mg "expressions_below" = some (.ref D.fexpressions_below)
  Fexpressions_in : Fun K "expressions_in" "expressions_in" s_expressions_in D.fexpressions_in D.dexpressions_in
  bexpressions_in : Binds K D.dexpressions_in ["e"] []
  mexpressions_in : mg "expressions_in" = some (.ref D.fexpressions_in)
  Fcheck_leaves : Fun K "check_leaves" "check_leaves" s_check_leaves D.fcheck_leaves D.dcheck_leaves
  bcheck_leaves : Binds K D.dcheck_leaves ["e", "scope"] []
  mcheck_leaves : mg "check_leaves" = some (.ref D.fcheck_leaves)
  F_law_state : Fun K "_law_state" "_law_state" s__law_state D.f_law_state D.d_law_state
  b_law_state : Binds K D.d_law_state ["script"] []
  m_law_state : mg "_law_state" = some (.ref D.f_law_state)
  F_law_draw : Fun K "_law_draw" "_law_draw" s__law_draw D.f_law_draw D.d_law_draw
  b_law_draw : Binds K D.d_law_draw ["state", "many"] []
  m_law_draw : mg "_law_draw" = some (.ref D.f_law_draw)
  F_law_expr : Fun K "_law_expr" "_law_expr" s__law_expr D.f_law_expr D.d_law_expr
  b_law_expr : Binds K D.d_law_expr ["state", "names", "variables", "deep"] []
  m_law_expr : mg "_law_expr" = some (.ref D.f_law_expr)
  F_law_statement : Fun K "_law_statement" "_law_statement" s__law_statement D.f_law_statement D.d_law_statement
  b_law_statement : Binds K D.d_law_statement ["state", "shape", "names", "writes", "nested"] []
  m_law_statement : mg "_law_statement" = some (.ref D.f_law_statement)
  F_law_body : Fun K "_law_body" "_law_body" s__law_body D.f_law_body D.d_law_body
  b_law_body : Binds K D.d_law_body ["state", "shape", "names", "writes", "nested"] []
  m_law_body : mg "_law_body" = some (.ref D.f_law_body)
  F_law_store : Fun K "_law_store" "_law_store" s__law_store D.f_law_store D.d_law_store
  b_law_store : Binds K D.d_law_store ["state"] []
  m_law_store : mg "_law_store" = some (.ref D.f_law_store)
  F_law_depth : Fun K "_law_depth" "_law_depth" s__law_depth D.f_law_depth D.d_law_depth
  b_law_depth : Binds K D.d_law_depth ["e"] []
  m_law_depth : mg "_law_depth" = some (.ref D.f_law_depth)
  F_law_large : Fun K "_law_large" "_law_large" s__law_large D.f_law_large D.d_law_large
  b_law_large : Binds K D.d_law_large ["state"] []
  m_law_large : mg "_law_large" = some (.ref D.f_law_large)
  Flaw : Fun K "law" "law" s_law D.flaw D.dlaw
  blaw : Binds K D.dlaw ["script"] []
  mlaw : mg "law" = some (.ref D.flaw)
  FScope : Fun K "__init__" "Scope.__init__" s_Scope__init__ D.fScope D.dScope
  bScope : Binds K D.dScope ["self", "width", "variables", "arguments", "writes"] []
  mScope : mg "Scope" = some (.ref D.cScope)
  clScope : Cls K D.cScope
  mkScope : Mk K D.cScope D.fScope
  nwidth : NoAttr K D.cScope "width"
  nvariables : NoAttr K D.cScope "variables"
  narguments : NoAttr K D.cScope "arguments"
  nwrites : NoAttr K D.cScope "writes"
  zlen : mg "len" = none
  zint : mg "int" = none
  zabs : mg "abs" = none
  zrange : mg "range" = none
  zisinstance : mg "isinstance" = none
  zbool : mg "bool" = none
  zsum : mg "sum" = none
  zany : mg "any" = none
  zlist : mg "list" = none
  ztuple : mg "tuple" = none
  zmax : mg "max" = none
  zrepr : mg "repr" = none
  zsuper : mg "super" = none
  kWORDS : ∃ t, mg "WORDS" = some (.int 16 t)
  kMOST_SECTORS : ∃ t, mg "MOST_SECTORS" = some (.int 6 t)
  kMOST_WIDTH : ∃ t, mg "MOST_WIDTH" = some (.int 4 t)
  kMOST_KEYS : ∃ t, mg "MOST_KEYS" = some (.int 3 t)
  kMOST_VARIABLES : ∃ t, mg "MOST_VARIABLES" = some (.int 8 t)
  kMOST_STATEMENTS : ∃ t, mg "MOST_STATEMENTS" = some (.int 60 t)
  kMOST_ROUNDS : ∃ t, mg "MOST_ROUNDS" = some (.int 8 t)
  kDEEPEST_BODY : ∃ t, mg "DEEPEST_BODY" = some (.int 4 t)
  kDEEPEST_LOOP : ∃ t, mg "DEEPEST_LOOP" = some (.int 2 t)
  kDEEPEST_EXPRESSION : ∃ t, mg "DEEPEST_EXPRESSION" = some (.int 5 t)
  kLEAVES : mg "LEAVES" = some (.ref D.leaves)
  lLEAVES : ∀ H : Hp, SqT K H D.leaves [.str "num", .str "var", .str "key", .str "value"]
  err : SE.SteTxt P K mg D.cErr D.fErr
end S2
namespace S2
open PySem L2
/-! ### helpers -/
theorem new_same {H : Hp} {p : Addr} (h : H p = none) (o : HO) : Same H (upd H p o) := fun b u q => by rw [upd_ne (ne_of_none q h)]; exact q
theorem yes {σ : L2.St} {H : Hp} {Q : Bool → Hp → Prop} (h : Q true H) : tYes σ H Q := h
theorem small5 {n : Nat} (h : n ≤ 100000) : n < sizeLine := by rw [sizeLine_eq]; omega
/-- what a check ends in -/
def Res (C : Addr) (o : Option Str) (H : Hp) (Q : VK) (E : XK) : Prop := match o with
  | none => ∀ H', Same H H' → Q .non H'
  | some r => ∀ H' d, Same H H' → H' d = some (.xd [(("rule" : Str), .str r)]) → E (.ref C) (some d) H'
theorem Res.same {C : Addr} {o : Option Str} {H H1 : Hp} {Q : VK} {E : XK} (h : Res C o H Q E) (s : Same H H1) : Res C o H1 Q E := by
  cases o with
  | none => exact fun H' t => h H' (s.trans t)
  | some r => exact fun H' d t e => h H' d (s.trans t) e
theorem Res.step {C : Addr} {a b : Option Str} {H : Hp} {Q Q' : VK} {E : XK} (h : Res C (fst a b) H Q E) (k : a = none → ∀ H', Same H H' → Res C b H' Q E → Q' .non H') : Res C a H Q' E := by
  cases a with
  | none => exact fun H' s => k rfl H' s (h.same s)
  | some r => exact h
theorem Res.imp {C : Addr} {a : Option Str} {H : Hp} {Q Q' : VK} {E : XK} (h : Res C a H Q E) (k : ∀ H', Same H H' → Q .non H' → Q' .non H') : Res C a H Q' E := by
  cases a with
  | none => exact fun H' s => k H' s (h H' s)
  | some r => exact h
/-- what a body may use, as an object -/
def scF (S : Sc) (t : Addr) : List (Str × V) := putF "writes" (.bl S.writes) (putF "arguments" (.ref t) (putF "variables" (.int S.variables) (putF "width" (.int S.width) [])))
def ScV (C : Addr) (S : Sc) (H : Hp) (v : V) : Prop := ∃ p dx t, v = .ref p ∧ H p = some (.ins C dx (scF S t)) ∧ H t = some (.tup (S.args.map V.str)) ∧ S.args.length ≤ 10
theorem ScV.same {C : Addr} {S : Sc} {H H' : Hp} {v : V} (h : ScV C S H v) (s : Same H H') : ScV C S H' v := by
  obtain ⟨p, dx, t, h1, h2, h3, h4⟩ := h
  exact ⟨p, dx, t, h1, s _ _ h2, s _ _ h3, h4⟩
theorem ne1 : ¬ (("variables" : Str) = "writes") := by decide +kernel
theorem ne2 : ¬ (("variables" : Str) = "arguments") := by decide +kernel
theorem ne3 : ¬ (("width" : Str) = "writes") := by decide +kernel
theorem ne4 : ¬ (("width" : Str) = "arguments") := by decide +kernel
theorem ne5 : ¬ (("width" : Str) = "variables") := by decide +kernel
theorem ne6 : ¬ (("arguments" : Str) = "writes") := by decide +kernel
theorem scF_writes (S : Sc) (t : Addr) : (scF S t).lookup ("writes" : Str) = some (.bl S.writes) := by unfold scF; rw [lookup_putF, if_pos rfl]
theorem scF_args (S : Sc) (t : Addr) : (scF S t).lookup ("arguments" : Str) = some (.ref t) := by unfold scF; rw [lookup_putF, if_neg ne6, lookup_putF, if_pos rfl]
theorem scF_vars (S : Sc) (t : Addr) : (scF S t).lookup ("variables" : Str) = some (.int S.variables) := by unfold scF; rw [lookup_putF, if_neg ne1, lookup_putF, if_neg ne2, lookup_putF, if_pos rfl]
theorem scF_width (S : Sc) (t : Addr) : (scF S t).lookup ("width" : Str) = some (.int S.width) := by unfold scF; rw [lookup_putF, if_neg ne3, lookup_putF, if_neg ne4, lookup_putF, if_neg ne5, lookup_putF, if_pos rfl]
/-! ### the promises -/
def spRequire (C : Addr) : Sp := fun vs H Q E => ∃ (b : Bool) (r : Str), vs = [.bl b, .str r] ∧ r.length ≤ 1000 ∧ Res C (if b = true then none else some r) H Q E
def spVariable (D : Defs) : Sp := fun vs H Q E => ∃ (i : Int) (S : Sc) (v : V), vs = [.int i, v] ∧ ScV D.cScope S H v ∧ Res D.cErr (chkV S i) H Q E
def spParts : Sp := fun vs H Q _ => ∃ (e : Ex) (v : V) (H0 : Hp), vs = [v] ∧ Same H0 H ∧ ExAt H0 e v ∧ ∀ p xs H', Same H H' → H p = none → H' p = some (.lst xs) → ExsAt H0 (parts e) xs → Q (.ref p) H'
def spBelowE : Sp := fun vs H Q _ => ∃ (l : Addr) (es : List Ex) (xs : List V), vs = [.ref l] ∧ H l = some (.lst xs) ∧ ExsAt H es xs ∧ es.length ≤ 1000 ∧
  ∀ p ys H', Same H H' → H' p = some (.lst ys) → ExsAt H (es.flatMap parts) ys → Q (.ref p) H'
def spLeaves (D : Defs) (n : Nat) : Sp := fun vs H Q E => ∃ (e : Ex) (S : Sc) (v u : V), vs = [v, u] ∧ ExAt H e v ∧ ScV D.cScope S H u ∧ dep e ≤ n ∧ Res D.cErr (chkL S e) H Q E
def spTooDeep : Sp := fun vs H Q _ => ∃ (e : Ex) (v : V), vs = [v] ∧ ExAt H e v ∧ ∀ H', Same H H' → Q (.bl (decide (5 < dep e))) H'
def spCheckE (D : Defs) : Sp := fun vs H Q E => ∃ (e : Ex) (S : Sc) (v u : V), vs = [v, u] ∧ ExAt H e v ∧ ScV D.cScope S H u ∧ Res D.cErr (chkE S e) H Q E
section
variable {P : Program} {w : World} {K : PySem.W.Frag} {mg : Str → Option Value} {base : Heap} {D : Defs}
theorem sc_require : FnScope ["kept", "rule"] ["kept", "rule"] (defScope s_require) := ⟨rfl, rfl, rfl, by decide +kernel, rfl, by decide +kernel, by decide +kernel⟩
theorem ok_require (O : Ok P K mg D) : FnOk P w K mg base (L2.CX P w) 3 D.frequire D.drequire ["kept", "rule"] (spRequire D.cErr) := by
  refine O.Frequire.okX sc_require (fun vs H Q E h => ?_) (fun cdv A outer s H vs Q E hr h => ?_)
  · obtain ⟨b, r, rfl, _⟩ := h
    rfl
  obtain ⟨b, r, rfl, hl, q⟩ := h
  refine ⟨_, pss_one (ps_if (pt_not (pt_val (pv 0))) (pss_one (SE.ps_raiseSte rfl O.err hr (takes_of rfl rfl rfl rfl) (pa_cons (pv 1) pa_nil))) pss_nil), ?_⟩
  refine ⟨_, rfl, b, rfl, ?_⟩
  cases b with
  | true => exact iteF (q H (Same.refl H))
  | false =>
    refine iteT ⟨_, rfl, r, rfl, hl, fun d nd => ?_⟩
    exact q _ d (new_same nd _) upd_same
theorem sc_check_variable : FnScope ["v", "scope"] ["v", "scope"] (defScope s_check_variable) := ⟨rfl, rfl, rfl, by decide +kernel, rfl, by decide +kernel, by decide +kernel⟩
theorem ok_variable (O : Ok P K mg D) : FnOk P w K mg base (L2.CX P w) 4 D.fcheck_variable D.dcheck_variable ["v", "scope"] (spVariable D) := by
  have G : FnOk P w K mg base (L2.CX P w) 3 D.frequire D.drequire ["kept", "rule"] (spRequire D.cErr) := ok_require O
  refine O.Fcheck_variable.okX sc_check_variable (fun vs H Q E h => ?_) (fun cdv A outer s H vs Q E hr h => ?_)
  · obtain ⟨i, S, v, rfl, _⟩ := h
    rfl
  obtain ⟨i, S, v, rfl, ⟨p, dx, t, rfl, h2, h3, _⟩, q⟩ := h
  refine ⟨_, pss_one (ps_expr (pe_call G hr rfl O.mrequire O.Frequire.kp O.brequire .nil (passes_call (takes_of rfl rfl rfl rfl) (fun _ _ _ _ h => h))
    (pa_cons (pe_chain op_le op_lt pe_int (pv 0) (pe_fld (pv 1) rfl)) (pa_cons pe_str pa_nil)))), ?_⟩
  refine ⟨_, rfl, _, _, rfl, rfl, _, rfl, ite2 (fun c => ?_) (fun c => ?_)⟩
  · refine ⟨_, rfl, p, D.cScope, dx, _, _, rfl, h2, O.clScope, O.nvariables, scF_vars S t, _, _, rfl, rfl, _, _, rfl, by decide +kernel, ?_⟩
    have c' : 0 ≤ i := of_decide_eq_true c
    unfold chkV at q
    by_cases z : i < S.variables
    · rw [if_pos ⟨c', z⟩] at q
      rw [decide_eq_true z, if_pos rfl]
      exact q
    · rw [if_neg (fun y => z y.2)] at q
      rw [decide_eq_false z, if_neg Bool.false_ne_true]
      exact q
  · refine ⟨_, _, rfl, by decide +kernel, ?_⟩
    have c' : ¬ 0 ≤ i := fun y => c (decide_eq_true y)
    unfold chkV at q
    rw [if_neg (fun y => c' y.1)] at q
    rw [if_neg Bool.false_ne_true]
    exact q
end
end S2
namespace S2
open PySem L2
/-- a walk over a list, whatever is done with an item -/
theorem walkL {K : PySem.W.Frag} {a : Addr} {xs : List V} {Qd : Hp → Prop} {B : V → Hp → (Hp → Prop) → Prop} {H0 : Hp} (Pv : Nat → Hp → Prop) (h0 : Pv 0 H0) (hl : ∀ i H, i ≤ xs.length → Pv i H → SqL K H a xs)
    (hs : ∀ i x H, xs[i]? = some x → Pv i H → B x H (Pv (i + 1))) (hd : ∀ H, Pv xs.length H → Qd H) :
    ∃ W : Nat → Nat → Hp → Prop, (∃ m, W 0 m H0) ∧ ∀ i m H, W i m H →
      ((Itl K a).stop i H ∧ Qd H) ∨ ((Itl K a).go i H ∧ ∃ Nx : Hp → Prop, (∀ H', Nx H' → ∃ m', m' < m ∧ W (i + 1) m' H') ∧ ∀ x H', (Itl K a).yld i H x H' → B x H' Nx) := by
  refine ⟨fun j k H => k + j = xs.length ∧ Pv j H, ⟨xs.length, rfl, h0⟩, ?_⟩
  rintro j k H ⟨ek, p⟩
  have q := hl j H (by omega) p
  cases k with
  | zero =>
    have ej : j = xs.length := by omega
    subst ej
    exact .inl ⟨⟨xs, q, Nat.le_refl _⟩, hd H p⟩
  | succ k =>
    have hlt : j < xs.length := by omega
    refine .inr ⟨⟨xs, xs[j], q, List.getElem?_eq_getElem hlt⟩, Pv (j + 1), fun H' p' => ⟨k, Nat.lt_succ_self _, by omega, p'⟩, ?_⟩
    rintro x H' ⟨rfl, y⟩
    exact hs j x _ (y xs q) p
theorem take_more {α : Type} : ∀ {l : List α} {i : Nat} {x : α}, l[i]? = some x → l.take (i + 1) = l.take i ++ [x]
  | [], i, x, h => by simp at h
  | a :: l, 0, x, h => by
    have e : a = x := Option.some.inj h
    subst e
    rfl
  | a :: l, i + 1, x, h => by
    have ih := take_more (l := l) (i := i) (x := x) h
    show a :: l.take (i + 1) = a :: l.take i ++ [x]
    rw [ih]
    rfl
theorem cut_tail (x : V) (xs : List V) : cutV (x :: xs) (some 1) none = xs := by
  unfold cutV
  have e1 : HT.sIx (x :: xs).length 0 (some 1) = 1 := by
    have := HT.sIx_nat (x :: xs).length 0 1
    rw [List.length_cons] at this ⊢
    have e : ((1 : Nat) : Int) = 1 := rfl
    rw [e] at this
    rw [this]
    omega
  rw [e1, HT.sIx_none, List.length_cons, List.drop_succ_cons, List.drop_zero]
  exact List.take_of_length_le (by omega)
def LV : List V := [.str "num", .str "var", .str "key", .str "value"]
theorem leaf_in : ∀ b : Bool, inV (.str (argName b)) LV = true := by decide +kernel
theorem num_in : inV (.str "num") LV = true := by decide +kernel
theorem var_in : inV (.str "var") LV = true := by decide +kernel
theorem one_out : ∀ b : Bool, inV (.str (oneName b)) LV = false := by decide +kernel
theorem two_out : ∀ o : Op, inV (.str o.name) LV = false := fun o => by cases o <;> decide +kernel
theorem ExAt.head {H : Hp} {e : Ex} {v : V} (h : ExAt H e v) : ∃ p k xs, v = .ref p ∧ H p = some (.tup (.str k :: xs)) ∧ xs.length ≤ 2 ∧
    ((inV (.str k) LV = true ∧ parts e = []) ∨ (inV (.str k) LV = false ∧ xs ≠ [] ∧ ExsAt H (parts e) xs)) := by
  cases e with
  | num x => obtain ⟨p, h1, h2⟩ := h; exact ⟨p, _, _, h1, h2, by simp, .inl ⟨num_in, rfl⟩⟩
  | var x => obtain ⟨p, h1, h2⟩ := h; exact ⟨p, _, _, h1, h2, by simp, .inl ⟨var_in, rfl⟩⟩
  | arg b => obtain ⟨p, h1, h2⟩ := h; exact ⟨p, _, _, h1, h2, by simp, .inl ⟨leaf_in b, rfl⟩⟩
  | one o a => obtain ⟨p, x, h1, h2, h3⟩ := h; exact ⟨p, _, _, h1, h2, by simp, .inr ⟨one_out o, by simp, h3, trivial⟩⟩
  | two o a b => obtain ⟨p, x, y, h1, h2, h3, h4⟩ := h; exact ⟨p, _, _, h1, h2, by simp, .inr ⟨two_out o, by simp, h3, h4, trivial⟩⟩
/-- i layers below -/
def lay : Nat → List Ex → List Ex
  | 0, es => es
  | i + 1, es => lay i (es.flatMap parts)
theorem lay_succ : ∀ (i : Nat) (es : List Ex), lay (i + 1) es = (lay i es).flatMap parts
  | 0, _ => rfl
  | i + 1, es => lay_succ i (es.flatMap parts)
theorem parts_len (e : Ex) : (parts e).length ≤ 2 := by cases e <;> simp [parts]
theorem flat_len : ∀ es : List Ex, (es.flatMap parts).length ≤ 2 * es.length
  | [] => Nat.le_refl _
  | e :: r => by
    have h1 := parts_len e
    have h2 := flat_len r
    rw [List.flatMap_cons, List.length_append, List.length_cons]
    omega
theorem lay_len : ∀ (i : Nat) (es : List Ex), (lay i es).length ≤ 2 ^ i * es.length
  | 0, es => by rw [lay]; omega
  | i + 1, es => by
    have h1 := lay_len i (es.flatMap parts)
    have h2 := flat_len es
    have h3 : 2 ^ i * (es.flatMap parts).length ≤ 2 ^ i * (2 * es.length) := Nat.mul_le_mul_left _ h2
    rw [lay, Nat.pow_succ, Nat.mul_assoc]
    exact Nat.le_trans h1 h3
theorem dep_pos (e : Ex) : 0 < dep e := by cases e <;> simp [dep] <;> omega
theorem parts_dep (e : Ex) (i : Nat) : i + 1 < dep e ↔ ∃ x ∈ parts e, i < dep x := by
  cases e with
  | num x => simp [dep, parts]
  | var x => simp [dep, parts]
  | arg x => simp [dep, parts]
  | one o a => simp [dep, parts]; omega
  | two o a b => simp [dep, parts]; omega
theorem lay_dep : ∀ (i : Nat) (es : List Ex), lay i es ≠ [] ↔ ∃ x ∈ es, i < dep x
  | 0, es => by
    constructor
    · intro h
      cases es with
      | nil => exact absurd rfl h
      | cons e r => exact ⟨e, List.mem_cons_self, dep_pos e⟩
    · rintro ⟨x, hx, _⟩ h
      have h : es = [] := h
      rw [h] at hx
      cases hx
  | i + 1, es => by
    rw [lay, lay_dep i]
    constructor
    · rintro ⟨x, hx, h⟩
      obtain ⟨e, he, hp⟩ := List.mem_flatMap.mp hx
      exact ⟨e, he, (parts_dep e i).mpr ⟨x, hp, h⟩⟩
    · rintro ⟨e, he, h⟩
      obtain ⟨x, hp, hx⟩ := (parts_dep e i).mp h
      exact ⟨x, List.mem_flatMap.mpr ⟨e, he, hp⟩, hx⟩
section
variable {P : Program} {w : World} {K : PySem.W.Frag} {mg : Str → Option Value} {base : Heap} {D : Defs}
theorem sc_expressions_in : FnScope ["e"] ["e"] (defScope s_expressions_in) := ⟨rfl, rfl, rfl, by decide +kernel, rfl, by decide +kernel, by decide +kernel⟩
theorem ok_parts (O : Ok P K mg D) : FnOk P w K mg base CX0 1 D.fexpressions_in D.dexpressions_in ["e"] spParts := by
  refine O.Fexpressions_in.ok sc_expressions_in (fun vs H Q E h => ?_) (fun cdv A outer s H vs Q E hr h => ?_)
  · obtain ⟨e, v, H0, rfl, _⟩ := h
    rfl
  obtain ⟨e, v, H0, rfl, s0, he, q⟩ := h
  obtain ⟨p, k, xs, rfl, hp, hxs, hd⟩ := he.head
  have hp := s0 _ _ hp
  refine ⟨_, pss_cons (ps_if (pt_cmpR op_in_seq (pe_ix ix_tup (pv 0) pe_int (fun _ _ => rfl)) (pe_glob (v := .ref D.leaves) (by rfl) O.kLEAVES rfl) (by rfl)) (pss_one (ps_ret (pe_lst pa_nil))) pss_nil)
    (pss_one (ps_ret (pe_callTy call_list_of (by rfl) O.zlist PyProof.Rows.boot_list (pa_cons (pe_slice sl_tup (pv 0) (po_some pe_int) po_none) pa_nil)))), ?_⟩
  refine ⟨_, rfl, p, _, _, _, rfl, rfl, SqT.of hp, atI_nat (j := 0) rfl, D.leaves, LV, rfl, .inr (O.lLEAVES _), rfl, rfl, _, rfl, ?_⟩
  rcases hd with ⟨h1, h2⟩ | ⟨h1, h2, h3⟩
  · rw [if_neg Bool.false_ne_true, h1]
    refine iteT ⟨(by show 0 ≤ sizeLine; decide), fun l nl => ?_⟩
    exact q l [] _ (new_same nl _) nl upd_same (by rw [h2]; trivial)
  · rw [if_neg Bool.false_ne_true, h1]
    refine iteF ⟨_, rfl, 1, rfl, p, _, rfl, SqT.of hp, ?_, fun t nt => ⟨t, _, rfl, .inr (SqT.of upd_same), fun l nl => ?_⟩⟩
    · intro z
      have z1 := z.1
      have := HT.sIx_nat (V.str k :: xs).length 0 1
      have e : ((1 : Nat) : Int) = 1 := rfl
      rw [e] at this
      rw [this, List.length_cons] at z1
      omega
    · have s1 := (new_same nt (.tup (cutV (V.str k :: xs) (some 1) none))).trans (new_same nl (.lst (cutV (V.str k :: xs) (some 1) none)))
      have e1 := cut_tail (V.str k) xs
      rw [e1] at s1 nl ⊢
      exact q l xs _ s1 ((new_same nt _).free nl) upd_same h3
theorem sc_expressions_below : FnScope ["layer", "e", "part"] ["layer"] (defScope s_expressions_below) := ⟨rfl, rfl, rfl, by decide +kernel, rfl, by decide +kernel, by decide +kernel⟩
theorem ok_belowE (O : Ok P K mg D) : FnOk P w K mg base CX0 2 D.fexpressions_below D.dexpressions_below ["layer"] spBelowE := by
  have G : FnOk P w K mg base CX0 1 D.fexpressions_in D.dexpressions_in ["e"] spParts := ok_parts O
  refine O.Fexpressions_below.ok sc_expressions_below (fun vs H Q E h => ?_) (fun cdv A outer s H vs Q E hr h => ?_)
  · obtain ⟨l, es, xs, rfl, _⟩ := h
    rfl
  obtain ⟨l, es, xs, rfl, hl, hx, hlen, q⟩ := h
  refine ⟨_, pss_one (ps_ret (pe_lc2 (own := [("e", 1), ("part", 2)]) (vs1 := [2]) (g := gName 1) (g1 := gName 2) (wi1 := iList K (tCall spParts [] E0 (tCons (tVar 1) tNil))) (by rfl) sc_expressions_below.nd (pi_list (pv 0)) (blkOk_by (own := [("e", 1), ("part", 2)]) (N := ["layer", "e", "part"]) (sc := defScope s_expressions_below) (by decide +kernel)) (by decide)
    (fun _ _ _ _ _ => pg_name (i := 1) sc_expressions_below.nd rfl (Or.inl rfl)) (fun _ _ _ _ _ => pts_nil)
    (fun _ _ _ _ _ => pi_list (pe_call G hr rfl O.mexpressions_in O.Fexpressions_in.kp O.bexpressions_in .nil pass0 (pa_cons (pv 1) pa_nil)))
    (fun _ _ _ _ _ => pg_name (i := 2) sc_expressions_below.nd rfl (Or.inl rfl)) (fun _ _ _ _ _ => pts_nil) (fun _ _ _ _ _ => pv 2))), ?_⟩
  have hxl := hx.len
  refine ⟨_, rfl, l, rfl, ⟨_, SqL.of hl⟩, fun d nd => walkL (K := K) (a := l) (xs := xs) (fun i H1 => ∃ acc, H1 d = some (.lst acc) ∧ Same H H1 ∧ ExsAt H ((es.take i).flatMap parts) acc)
    ⟨[], upd_same, new_same nd _, trivial⟩ (fun i H1 _ ⟨_, _, s1, _⟩ => SqL.of (s1 _ _ hl)) ?_ ?_⟩
  · rintro i x H1 hi ⟨acc, hd, s1, ha⟩
    obtain ⟨e, hei, he⟩ := hx.get hi
    refine ⟨rfl, yes (iteT ?_)⟩
    refine ⟨_, rfl, e, x, H, rfl, s1, he, fun p ys H2 s2 np hp hy => ?_⟩
    have hdp : d ≠ p := fun z => by rw [← z, hd] at np; cases np
    have hil : i < es.length := (List.getElem?_eq_some_iff.mp hei).1
    have hyl := hy.len
    have h2 := parts_len e
    have hal := ha.len
    have h3 := flat_len (es.take i)
    have h4 : (es.take i).length ≤ i := by rw [List.length_take]; omega
    refine ⟨p, rfl, ⟨_, SqL.of hp⟩, walkL (K := K) (a := p) (xs := ys) (fun j H3 => H3 d = some (.lst (acc ++ ys.take j)) ∧ (∀ b o, H2 b = some o → b ≠ d → H3 b = some o))
      ⟨by rw [List.take_zero, List.append_nil]; exact s2 _ _ hd, fun b o e _ => e⟩ (fun j H3 _ ⟨_, k⟩ => SqL.of (k _ _ hp hdp.symm)) ?_ ?_⟩
    · rintro j y H3 hj ⟨h5, k⟩
      refine ⟨rfl, yes (iteT ?_)⟩
      refine ⟨y, rfl, _, h5, ?_, ?_, ?_⟩
      · rw [List.length_append, List.length_take]
        exact small5 (n := acc.length + min j ys.length) (by omega)
      · rw [upd_same, take_more hj, List.append_assoc]
      · intro b o e hb
        rw [upd_ne hb]
        exact k b o e hb
    · rintro H3 ⟨h5, k⟩
      rw [List.take_length] at h5
      refine ⟨acc ++ ys, h5, fun b o e => k b o (s2 _ _ (s1 _ _ e)) (fun z => by rw [z, nd] at e; cases e), ?_⟩
      rw [take_more hei, List.flatMap_append]
      refine ha.app ?_
      rw [List.flatMap_cons, List.flatMap_nil, List.append_nil]
      exact hy
  · rintro H1 ⟨acc, hd, s1, ha⟩
    rw [hxl, List.take_length] at ha
    exact q d acc H1 s1 hd ha
theorem sc_too_deep : FnScope ["e", "layer", "_"] ["e"] (defScope s_too_deep) := ⟨rfl, rfl, rfl, by decide +kernel, rfl, by decide +kernel, by decide +kernel⟩
theorem ok_tooDeep (O : Ok P K mg D) : FnOk P w K mg base CX0 3 D.ftoo_deep D.dtoo_deep ["e"] spTooDeep := by
  have G : FnOk P w K mg base CX0 2 D.fexpressions_below D.dexpressions_below ["layer"] spBelowE := ok_belowE O
  refine O.Ftoo_deep.ok sc_too_deep (fun vs H Q E h => ?_) (fun cdv A outer s H vs Q E hr h => ?_)
  · obtain ⟨e, v, rfl, _⟩ := h
    rfl
  obtain ⟨e, v, rfl, he, q⟩ := h
  obtain ⟨tD, kD⟩ := O.kDEEPEST_EXPRESSION
  refine ⟨_, pss_cons (ps_set (i := 1) sc_too_deep.nd rfl (Or.inl rfl) (pe_lst (pa_cons (pv 0) pa_nil)))
    (pss_cons (ps_for PassesOwn.never rfl (pi_range1 (by rfl) O.zrange (pa_cons (pe_glob (v := .int 5) (by rfl) kD ⟨_, rfl⟩) pa_nil)) (pg_name (i := 2) sc_too_deep.nd rfl (Or.inl rfl))
      (pss_one (ps_set (i := 1) sc_too_deep.nd rfl (Or.inl rfl) (pe_call G hr rfl O.mexpressions_below O.Fexpressions_below.kp O.bexpressions_below .nil pass0 (pa_cons (pv 1) pa_nil)))))
    (pss_one (ps_ret (pe_cmpR op_gt (pe_callB call_len_seq (by rfl) O.zlen PySem.boot_len (pa_cons (pv 1) pa_nil)) pe_int (nomark _))))), ?_⟩
  refine ⟨_, rfl, (by show 1 ≤ sizeLine; decide), fun l nl => ?_⟩
  refine ⟨5, rfl, by decide, by decide, for_range (lo := 0) (n := 5) (fun i σ H1 => ∃ (p : Addr) (xs : List V) (u : Option V), σ = [some v, some (.ref p), u] ∧ Same H H1 ∧ H1 p = some (.lst xs) ∧ ExsAt H1 (lay i [e]) xs)
    ⟨l, [v], none, rfl, new_same nl _, upd_same, he.same (new_same nl _), trivial⟩ ?_ ?_⟩
  · rintro i σ H1 hi ⟨p, xs, u, rfl, s1, hp, hx⟩
    have hz := lay_len i [e]
    have hz2 : 2 ^ i ≤ 2 ^ 5 := Nat.pow_le_pow_right (by decide) (Nat.le_of_lt hi)
    refine ⟨_, rfl, p, lay i [e], xs, rfl, hp, hx, by rw [List.length_singleton] at hz; omega, fun r ys H2 s2 hr2 hy => ?_⟩
    refine ⟨r, ys, _, rfl, s1.trans s2, hr2, ?_⟩
    rw [lay_succ]
    exact hy.same s2
  · rintro σ H1 ⟨p, xs, u, rfl, s1, hp, hx⟩
    refine ⟨_, rfl, p, xs, rfl, .inl (SqL.of hp), _, _, rfl, rfl, ?_⟩
    have e1 : decide ((0 : Int) < ((xs.length : Nat) : Int)) = decide (5 < dep e) := by
      have h1 := lay_dep 5 [e]
      have h2 := hx.len
      apply Bool.eq_iff_iff.mpr
      rw [decide_eq_true_eq, decide_eq_true_eq, h2]
      constructor
      · intro z
        have z2 : lay 5 [e] ≠ [] := fun y => by rw [y] at z; exact absurd z (by decide)
        obtain ⟨x, hx, h⟩ := h1.mp z2
        rw [List.mem_singleton.mp hx] at h
        exact h
      · intro z
        have z2 : lay 5 [e] ≠ [] := h1.mpr ⟨e, List.mem_singleton.mpr rfl, z⟩
        have z3 := List.length_pos_iff.mpr z2
        omega
    show Q (.bl (decide ((0 : Int) < ((xs.length : Nat) : Int)))) H1
    rw [e1]
    exact q H1 s1
end
end S2
namespace S2
open PySem L2
theorem ifT {p : Prop} [Decidable p] {A B : Prop} (h : p) (x : A) : if decide p = true then A else B := by rw [decide_eq_true h]; exact iteT x
theorem ifF {p : Prop} [Decidable p] {A B : Prop} (h : ¬ p) (x : B) : if decide p = true then A else B := by rw [decide_eq_false h]; exact iteF x
theorem nstr {a b : Str} (h : ¬ a = b) : ¬ V.str a = V.str b := fun e => h (V.str.inj e)
def chkLs (S : Sc) : List Ex → Option Str
  | [] => none
  | e :: r => fst (chkL S e) (chkLs S r)
def own (S : Sc) : Ex → Option Str
  | .num w => if 0 ≤ w ∧ w < 16 then none else some "word"
  | .var i => chkV S i
  | .arg b => if inV (.str (argName b)) (S.args.map V.str) = true then none else some "argument"
  | _ => none
theorem chkL_eq (S : Sc) (e : Ex) : chkL S e = fst (own S e) (chkLs S (parts e)) := by
  cases e with
  | num x => show _ = fst _ none; rw [fst_none]; rfl
  | var x => show _ = fst _ none; rw [fst_none]; rfl
  | arg x => show _ = fst _ none; rw [fst_none]; rfl
  | one o a => show _ = fst (chkL S a) none; rw [fst_none]; rfl
  | two o a b => show fst _ _ = fst (chkL S a) (fst (chkL S b) none); rw [fst_none]
theorem all_flat : ∀ zs : List Str, (zs.map V.str).all flatV = true := fun zs => by
  rw [List.all_map, List.all_eq_true]
  intro x _
  rfl
def KV : List V := [.str "key", .str "value"]
theorem one_kv : ∀ b : Bool, inV (.str (oneName b)) KV = false := by decide +kernel
theorem arg_kv : ∀ b : Bool, inV (.str (argName b)) KV = true := by decide +kernel
theorem two_kv : ∀ o : Op, inV (.str o.name) KV = false := fun o => by cases o <;> decide +kernel
theorem one_num : ∀ b : Bool, ¬ oneName b = "num" := by decide +kernel
theorem one_var : ∀ b : Bool, ¬ oneName b = "var" := by decide +kernel
theorem arg_num : ∀ b : Bool, ¬ argName b = "num" := by decide +kernel
theorem arg_var : ∀ b : Bool, ¬ argName b = "var" := by decide +kernel
theorem two_num : ∀ o : Op, ¬ o.name = "num" := fun o => by cases o <;> decide +kernel
theorem two_var : ∀ o : Op, ¬ o.name = "var" := fun o => by cases o <;> decide +kernel
theorem var_num : ¬ (("var" : Str) = "num") := by decide +kernel
section
variable {P : Program} {w : World} {K : PySem.W.Frag} {mg : Str → Option Value} {base : Heap} {D : Defs}
theorem sc_check_leaves : FnScope ["e", "scope", "kind", "part"] ["e", "scope"] (defScope s_check_leaves) := ⟨rfl, rfl, rfl, by decide +kernel, rfl, by decide +kernel, by decide +kernel⟩
theorem no_leaves : FnOk P w K mg base (L2.CX P w) 4 D.fcheck_leaves D.dcheck_leaves ["e", "scope"] (spLeaves D 0) := by
  have no : ∀ vs H Q E, ¬ spLeaves D 0 vs H Q E := fun vs H Q E h => by
    obtain ⟨e, S, v, u, _, _, _, h1, _⟩ := h
    have := dep_pos e
    omega
  exact ⟨fun vs H Q E h => absurd h (no vs H Q E), fun A outer s H args us vs Q E _ _ _ _ h => absurd h (no vs H Q E)⟩
theorem more_leaves {n : Nat} (O : Ok P K mg D) (GL : FnOk P w K mg base (L2.CX P w) (n + 4) D.fcheck_leaves D.dcheck_leaves ["e", "scope"] (spLeaves D n)) :
    FnOk P w K mg base (L2.CX P w) (n + 5) D.fcheck_leaves D.dcheck_leaves ["e", "scope"] (spLeaves D (n + 1)) := by
  have GR : FnOk P w K mg base (L2.CX P w) 3 D.frequire D.drequire ["kept", "rule"] (spRequire D.cErr) := ok_require O
  have GV : FnOk P w K mg base (L2.CX P w) 4 D.fcheck_variable D.dcheck_variable ["v", "scope"] (spVariable D) := ok_variable O
  have GP : FnOk P w K mg base CX0 1 D.fexpressions_in D.dexpressions_in ["e"] spParts := ok_parts O
  refine O.Fcheck_leaves.okX sc_check_leaves (fun vs H Q E h => ?_) (fun cdv A outer s H vs Q E hr h => ?_)
  · obtain ⟨e, S, v, u, rfl, _⟩ := h
    rfl
  obtain ⟨e, S, v, u, rfl, he, hS, hdep, q⟩ := h
  have hr4 : Room 4 _ := hr.mono (by omega)
  have hr3 : Room 3 _ := hr.mono (by omega)
  have hr1 : Room 1 _ := hr.mono (by omega)
  obtain ⟨tW, kW⟩ := O.kWORDS
  refine ⟨_, pss_cons (ps_set (i := 2) sc_check_leaves.nd rfl (Or.inl rfl) (pe_ix ix_tup (pv 0) pe_int (fun _ _ => rfl)))
    (C8.pss_cut (ps_if (pt_cmpR op_eq (pv 2) pe_str (nomark _))
        (pss_one (ps_expr (pe_call GR hr3 rfl O.mrequire O.Frequire.kp O.brequire .nil (passes_call (takes_of rfl rfl rfl rfl) (fun _ _ _ _ h => h)) (pa_cons (pe_chain op_le op_lt pe_int (pe_ix ix_tup (pv 0) pe_int (fun _ _ => rfl)) (pe_glob (v := .int 16) (by rfl) kW ⟨_, rfl⟩)) (pa_cons pe_str pa_nil)))))
        (pss_one (ps_if (pt_cmpR op_eq (pv 2) pe_str (nomark _))
          (pss_one (ps_expr (pe_call GV hr4 rfl O.mcheck_variable O.Fcheck_variable.kp O.bcheck_variable .nil (passes_call (takes_of rfl rfl rfl rfl) (fun _ _ _ _ h => h)) (pa_cons (pe_ix ix_tup (pv 0) pe_int (fun _ _ => rfl)) (pa_cons (pv 1) pa_nil)))))
          (pss_one (ps_if (pt_cmpR op_in_seq (pv 2) (pe_tup (pa_cons pe_str (pa_cons pe_str pa_nil))) (by rfl))
            (pss_one (ps_expr (pe_call GR hr3 rfl O.mrequire O.Frequire.kp O.brequire .nil (passes_call (takes_of rfl rfl rfl rfl) (fun _ _ _ _ h => h)) (pa_cons (pe_cmpR op_in_seq (pv 2) (pe_fld (pv 1) rfl) (by rfl)) (pa_cons pe_str pa_nil)))))
            pss_nil)))))
    (pss_one (ps_for (passes_of rfl) rfl (pi_list (pe_call GP hr1 rfl O.mexpressions_in O.Fexpressions_in.kp O.bexpressions_in .nil pass0 (pa_cons (pv 0) pa_nil))) (pg_name (i := 3) sc_check_leaves.nd rfl (Or.inl rfl))
      (pss_one (ps_expr (pe_call GL hr rfl O.mcheck_leaves O.Fcheck_leaves.kp O.bcheck_leaves .nil (passes_call (takes_of rfl rfl rfl rfl) (fun _ _ _ _ h => h)) (pa_cons (pv 3) (pa_cons (pv 1) pa_nil)))))))), ?_⟩
  rw [chkL_eq] at q
  obtain ⟨p, k, xs, rfl, hp, hxs, hd⟩ := he.head
  refine ⟨_, rfl, p, _, _, _, rfl, rfl, SqT.of hp, atI_nat (j := 0) rfl, ?_⟩
  refine ⟨fun σ H' => σ = [some (.ref p), some u, some (.str k), none] ∧ Same H H' ∧ Res D.cErr (chkLs S (parts e)) H' Q E, ?_, ?_⟩
  · -- its own word, variable or argument
    obtain ⟨ps, dx, t, rfl, h2, h3, hlen⟩ := id hS
    cases e with
    | num x =>
      obtain ⟨p', e1, h⟩ := he
      cases e1
      have z := Option.some.inj (hp.symm.trans h)
      injection z with z
      injection z with z1 z2
      cases z1
      cases z2
      refine ⟨_, rfl, rfl, _, rfl, ifT rfl ?_⟩
      refine ⟨_, rfl, p, _, _, _, rfl, rfl, SqT.of h, atI_nat (j := 1) rfl, _, _, rfl, rfl, _, rfl, ite2 (fun c => ?_) (fun c => ?_)⟩
      · refine ⟨_, _, rfl, rfl, _, _, rfl, by decide +kernel, ?_⟩
        have c' : 0 ≤ x := of_decide_eq_true c
        by_cases z : x < 16
        · rw [decide_eq_true z, if_pos rfl]
          have q' : Res D.cErr (fst none (chkLs S (parts (.num x)))) H Q E := by
            have e2 : own S (.num x) = none := if_pos ⟨c', z⟩
            rw [← e2]; exact q
          exact q'.step fun _ H' s r => ⟨rfl, s, r⟩
        · rw [decide_eq_false z, if_neg Bool.false_ne_true]
          have q' : Res D.cErr (fst (some "word") (chkLs S (parts (.num x)))) H Q E := by
            have e2 : own S (.num x) = some ("word" : Str) := if_neg fun y => z y.2
            rw [← e2]; exact q
          exact q'.step fun z => by cases z
      · refine ⟨_, _, rfl, by decide +kernel, ?_⟩
        have c' : ¬ 0 ≤ x := fun y => c (decide_eq_true y)
        rw [if_neg Bool.false_ne_true]
        have q' : Res D.cErr (fst (some "word") (chkLs S (parts (.num x)))) H Q E := by
          have e2 : own S (.num x) = some ("word" : Str) := if_neg fun y => c' y.1
          rw [← e2]; exact q
        exact q'.step fun z => by cases z
    | var x =>
      obtain ⟨p', e1, h⟩ := he
      cases e1
      have z := Option.some.inj (hp.symm.trans h)
      injection z with z
      injection z with z1 z2
      cases z1
      cases z2
      refine ⟨_, rfl, rfl, _, rfl, ifF (nstr var_num) ?_⟩
      refine ⟨_, rfl, rfl, _, rfl, ifT rfl ?_⟩
      refine ⟨_, rfl, p, _, _, _, rfl, rfl, SqT.of h, atI_nat (j := 1) rfl, _, rfl, x, S, _, rfl, hS, ?_⟩
      exact q.step fun _ H' s r => ⟨rfl, s, r⟩
    | arg b =>
      obtain ⟨p', e1, h⟩ := he
      cases e1
      have z := Option.some.inj (hp.symm.trans h)
      injection z with z
      injection z with z1 z2
      cases z1
      cases z2
      refine ⟨_, rfl, rfl, _, rfl, ifF (nstr (arg_num b)) ?_⟩
      refine ⟨_, rfl, rfl, _, rfl, ifF (nstr (arg_var b)) ?_⟩
      refine ⟨_, rfl, (by show 2 ≤ sizeLine; decide), fun a na => ⟨a, KV, rfl, .inr (SqT.of upd_same), rfl, rfl, _, rfl, ?_⟩⟩
      rw [if_neg Bool.false_ne_true, arg_kv b]
      have sA := new_same na (.tup KV)
      refine iteT ⟨_, rfl, _, rfl, ps, D.cScope, dx, _, _, rfl, sA _ _ h2, O.clScope, O.narguments, scF_args S t, t, _, rfl, .inr (SqT.of (sA _ _ h3)), rfl, all_flat _, _, _, rfl, by decide +kernel, ?_⟩
      rw [if_neg Bool.false_ne_true]
      exact (q.same sA).step fun _ H' s r => ⟨rfl, sA.trans s, r⟩
    | one o a =>
      obtain ⟨p', x, e1, h, _⟩ := he
      cases e1
      have z := Option.some.inj (hp.symm.trans h)
      injection z with z
      injection z with z1 z2
      cases z1
      cases z2
      refine ⟨_, rfl, rfl, _, rfl, ifF (nstr (one_num o)) ?_⟩
      refine ⟨_, rfl, rfl, _, rfl, ifF (nstr (one_var o)) ?_⟩
      refine ⟨_, rfl, (by show 2 ≤ sizeLine; decide), fun a na => ⟨a, KV, rfl, .inr (SqT.of upd_same), rfl, rfl, _, rfl, ?_⟩⟩
      rw [if_neg Bool.false_ne_true, one_kv o]
      have sA := new_same na (.tup KV)
      exact iteF ⟨rfl, sA, q.same sA⟩
    | two o a b =>
      obtain ⟨p', x, y, e1, h, _⟩ := he
      cases e1
      have z := Option.some.inj (hp.symm.trans h)
      injection z with z
      injection z with z1 z2
      cases z1
      cases z2
      refine ⟨_, rfl, rfl, _, rfl, ifF (nstr (two_num o)) ?_⟩
      refine ⟨_, rfl, rfl, _, rfl, ifF (nstr (two_var o)) ?_⟩
      refine ⟨_, rfl, (by show 2 ≤ sizeLine; decide), fun a na => ⟨a, KV, rfl, .inr (SqT.of upd_same), rfl, rfl, _, rfl, ?_⟩⟩
      rw [if_neg Bool.false_ne_true, two_kv o]
      have sA := new_same na (.tup KV)
      exact iteF ⟨rfl, sA, q.same sA⟩
  · rintro σ H' ⟨rfl, s1, q1⟩
    refine ⟨_, rfl, e, _, H, rfl, s1, he, fun l ys H2 s2 nl hl hy => ?_⟩
    have hyl := hy.len
    refine ⟨l, rfl, ⟨_, SqL.of hl⟩, for_list (K := K) (a := l) (xs := ys) (fun i σ H3 => ∃ z : Option V, σ = [some (.ref p), some u, some (.str k), z] ∧ Same H2 H3 ∧ Res D.cErr (chkLs S ((parts e).drop i)) H3 Q E)
      ⟨none, rfl, Same.refl _, q1.same s2⟩ (fun i σ H3 _ ⟨_, _, s3, _⟩ => SqL.of (s3 _ _ hl)) ?_ ?_⟩
    · rintro i x σ H3 hi ⟨z, rfl, s3, q3⟩
      obtain ⟨e', he', hx'⟩ := hy.get hi
      have s03 : Same H H3 := s1.trans (s2.trans s3)
      have hlt := (List.getElem?_eq_some_iff.mp he')
      have hdrop : (parts e).drop i = e' :: (parts e).drop (i + 1) := by
        rw [List.drop_eq_getElem_cons hlt.1, hlt.2]
      rw [hdrop] at q3
      have hd' : dep e' ≤ n := by
        have hm := List.mem_of_getElem? he'
        have := (parts_dep e (dep e' - 1)).mpr ⟨e', hm, by have := dep_pos e'; omega⟩
        have := dep_pos e'
        omega
      refine ⟨_, rfl, _, rfl, e', S, x, u, rfl, hx'.same s03, hS.same s03, hd', ?_⟩
      exact q3.step fun _ H4 s4 r => ⟨_, rfl, s3.trans s4, r⟩
    · rintro σ H3 ⟨z, rfl, s3, q3⟩
      rw [hyl, List.drop_length] at q3
      exact q3 H3 (Same.refl _)
theorem ok_leaves (O : Ok P K mg D) : ∀ n, FnOk P w K mg base (L2.CX P w) (n + 4) D.fcheck_leaves D.dcheck_leaves ["e", "scope"] (spLeaves D n)
  | 0 => no_leaves
  | n + 1 => more_leaves O (ok_leaves O n)
theorem sc_check_expression : FnScope ["e", "scope"] ["e", "scope"] (defScope s_check_expression) := ⟨rfl, rfl, rfl, by decide +kernel, rfl, by decide +kernel, by decide +kernel⟩
theorem ok_checkE (O : Ok P K mg D) : FnOk P w K mg base (L2.CX P w) 10 D.fcheck_expression D.dcheck_expression ["e", "scope"] (spCheckE D) := by
  have GR : FnOk P w K mg base (L2.CX P w) 3 D.frequire D.drequire ["kept", "rule"] (spRequire D.cErr) := ok_require O
  have GT : FnOk P w K mg base CX0 3 D.ftoo_deep D.dtoo_deep ["e"] spTooDeep := ok_tooDeep O
  have GL : FnOk P w K mg base (L2.CX P w) 9 D.fcheck_leaves D.dcheck_leaves ["e", "scope"] (spLeaves D 5) := ok_leaves O 5
  refine O.Fcheck_expression.okX sc_check_expression (fun vs H Q E h => ?_) (fun cdv A outer s H vs Q E hr h => ?_)
  · obtain ⟨e, S, v, u, rfl, _⟩ := h
    rfl
  obtain ⟨e, S, v, u, rfl, he, hS, q⟩ := h
  have hr3 : Room 3 _ := hr.mono (by decide)
  refine ⟨_, pss_cons (ps_expr (pe_call GR hr3 rfl O.mrequire O.Frequire.kp O.brequire .nil (passes_call (takes_of rfl rfl rfl rfl) (fun _ _ _ _ h => h)) (pa_cons (pe_not (pe_call GT hr3 rfl O.mtoo_deep O.Ftoo_deep.kp O.btoo_deep .nil pass0 (pa_cons (pv 0) pa_nil))) (pa_cons pe_str pa_nil))))
    (pss_one (ps_expr (pe_call GL hr rfl O.mcheck_leaves O.Fcheck_leaves.kp O.bcheck_leaves .nil (passes_call (takes_of rfl rfl rfl rfl) (fun _ _ _ _ h => h)) (pa_cons (pv 0) (pa_cons (pv 1) pa_nil))))), ?_⟩
  refine ⟨_, rfl, e, v, rfl, he, fun H1 s1 => ⟨_, rfl, _, _, rfl, by decide +kernel, ?_⟩⟩
  have q1 := q.same s1
  unfold chkE at q1
  by_cases c : 5 < dep e
  · rw [if_pos c] at q1
    rw [decide_eq_true c]
    have q2 : Res D.cErr (fst (some "size") none) H1 Q E := q1
    exact q2.step fun z => by cases z
  · rw [if_neg c] at q1
    rw [decide_eq_false c]
    have q2 : Res D.cErr (fst none (chkL S e)) H1 Q E := q1
    refine q2.step fun _ H2 s2 q3 => ?_
    have s12 := s1.trans s2
    refine ⟨_, rfl, _, rfl, e, S, v, u, rfl, he.same s12, hS.same s12, by omega, ?_⟩
    exact q3.imp fun H3 _ z => z
end
end S2
namespace S2
open PySem L2
def kindS : Sm → Str
  | .set _ _ => "set" | .write _ _ => "write" | .barrier => "barrier" | .ite _ _ _ => "if" | .loop _ _ _ => "loop"
theorem SmAt.head {H : Hp} {s : Sm} {v : V} (h : SmAt H s v) : ∃ p xs, v = .ref p ∧ H p = some (.tup (.str (kindS s) :: xs)) := by
  cases s with
  | set i e => unfold SmAt at h; obtain ⟨p, x, h1, h2, _⟩ := h; exact ⟨p, _, h1, h2⟩
  | write e ws => unfold SmAt at h; obtain ⟨p, x, l, xs, h1, h2, _⟩ := h; exact ⟨p, _, h1, h2⟩
  | barrier => unfold SmAt at h; obtain ⟨p, h1, h2⟩ := h; exact ⟨p, _, h1, h2⟩
  | ite e a b => unfold SmAt at h; obtain ⟨p, x, la, xa, lb, xb, h1, h2, _⟩ := h; exact ⟨p, _, h1, h2⟩
  | loop i n b => unfold SmAt at h; obtain ⟨p, l, xs, h1, h2, _⟩ := h; exact ⟨p, _, h1, h2⟩
theorem if_loop : ¬ (("loop" : Str) = "if") := by decide +kernel
theorem set_if : ¬ (("set" : Str) = "if") := by decide +kernel
theorem set_loop : ¬ (("set" : Str) = "loop") := by decide +kernel
theorem write_if : ¬ (("write" : Str) = "if") := by decide +kernel
theorem write_loop : ¬ (("write" : Str) = "loop") := by decide +kernel
theorem barrier_if : ¬ (("barrier" : Str) = "if") := by decide +kernel
theorem barrier_loop : ¬ (("barrier" : Str) = "loop") := by decide +kernel
theorem if_not_loop : ¬ (("if" : Str) = "loop") := by decide +kernel
theorem write_set : ¬ (("write" : Str) = "set") := by decide +kernel
theorem barrier_set : ¬ (("barrier" : Str) = "set") := by decide +kernel
theorem barrier_write : ¬ (("barrier" : Str) = "write") := by decide +kernel
theorem if_set : ¬ (("if" : Str) = "set") := by decide +kernel
theorem if_write : ¬ (("if" : Str) = "write") := by decide +kernel
theorem if_barrier : ¬ (("if" : Str) = "barrier") := by decide +kernel
theorem loop_set : ¬ (("loop" : Str) = "set") := by decide +kernel
theorem loop_write : ¬ (("loop" : Str) = "write") := by decide +kernel
theorem loop_barrier : ¬ (("loop" : Str) = "barrier") := by decide +kernel
/-! ### the bodies directly in a statement -/
def spBodies : Sp := fun vs H Q _ => ∃ (s : Sm) (v : V) (H0 : Hp), vs = [v] ∧ Same H0 H ∧ SmAt H0 s v ∧ ∀ p xs H', Same H H' → H p = none → H' p = some (.lst xs) → Each BdV H0 (inner s) xs → Q (.ref p) H'
/-- a body with the loops around it, as a pair; the body stands in H0 -/
def LayV (H0 H : Hp) (x : List Sm × Nat) (v : V) : Prop := ∃ p q, v = .ref p ∧ H p = some (.tup [q, .int x.2]) ∧ BdV H0 x.1 q
def SameT (H H' : Hp) : Prop := ∀ b xs, H b = some (.tup xs) → H' b = some (.tup xs)
theorem sameT {H H' : Hp} (s : Same H H') : SameT H H' := fun b xs e => s _ _ e
theorem SameT.trans {H H1 H2 : Hp} (a : SameT H H1) (b : SameT H1 H2) : SameT H H2 := fun c xs e => b _ _ (a _ _ e)
theorem sameT_lst {H : Hp} {l : Addr} {xs ys : List V} (h : H l = some (.lst xs)) : SameT H (upd H l (.lst ys)) := fun b zs e => by
  rw [upd_ne (ne_of e h (by intro z; cases z))]
  exact e
theorem LayV.t {H0 H H' : Hp} (s : SameT H H') {x : List Sm × Nat} {v : V} (h : LayV H0 H x v) : LayV H0 H' x v := by
  obtain ⟨p, q, h1, h2, h3⟩ := h
  exact ⟨p, q, h1, s _ _ h2, h3⟩
theorem LayV.up {H0 H1 H : Hp} (s : Same H0 H1) {x : List Sm × Nat} {v : V} (h : LayV H0 H x v) : LayV H1 H x v := by
  obtain ⟨p, q, h1, h2, h3⟩ := h
  exact ⟨p, q, h1, h2, h3.same s⟩
def cntL : List (List Sm × Nat) → Nat
  | [] => 0
  | (b, _) :: r => cnt b + cntL r
theorem len_cnt : ∀ b : List Sm, b.length ≤ cnt b
  | [] => Nat.zero_le _
  | s :: r => by
    have h := len_cnt r
    have h1 : 1 ≤ cntS s := by cases s <;> simp [cntS] <;> omega
    rw [cnt, List.length_cons]
    omega
theorem below_flat : ∀ L : List (List Sm × Nat), below L = L.flatMap fun p => p.1.flatMap fun s => belowS s p.2
  | [] => rfl
  | (b, n) :: r => by rw [below, List.flatMap_cons, below_flat r]
theorem belowS_len (s : Sm) (n : Nat) : (belowS s n).length ≤ 2 := by
  unfold belowS
  rw [List.length_map]
  cases s <;> simp [inner]
theorem flatS_len (n : Nat) : ∀ b : List Sm, (b.flatMap fun s => belowS s n).length ≤ 2 * b.length
  | [] => Nat.le_refl _
  | s :: r => by
    have h1 := belowS_len s n
    have h2 := flatS_len n r
    rw [List.flatMap_cons, List.length_append, List.length_cons]
    omega
theorem below_len : ∀ L : List (List Sm × Nat), (below L).length ≤ 2 * cntL L
  | [] => Nat.le_refl _
  | (b, n) :: r => by
    have h1 := flatS_len n b
    have h2 := below_len r
    have h3 := len_cnt b
    rw [below, List.length_append, cntL]
    omega
theorem cntL_app : ∀ L M : List (List Sm × Nat), cntL (L ++ M) = cntL L + cntL M
  | [], M => by rw [List.nil_append, cntL, Nat.zero_add]
  | (b, n) :: r, M => by rw [List.cons_append, cntL, cntL, cntL_app r M, Nat.add_assoc]
theorem cntS_below (s : Sm) (n : Nat) : 1 + cntL (belowS s n) = cntS s := by
  cases s <;> simp [belowS, inner, cntL, cntS]
theorem cnt_below (n : Nat) : ∀ b : List Sm, b.length + cntL (b.flatMap fun s => belowS s n) = cnt b
  | [] => rfl
  | s :: r => by
    have h1 := cntS_below s n
    have h2 := cnt_below n r
    rw [List.flatMap_cons, cntL_app, cnt, List.length_cons]
    omega
theorem cntL_below : ∀ L : List (List Sm × Nat), lens L + cntL (below L) = cntL L
  | [] => rfl
  | (b, n) :: r => by
    have h1 := cnt_below n b
    have h2 := cntL_below r
    rw [below, cntL_app, lens, cntL]
    omega
def spBelowB : Sp := fun vs H Q _ => ∃ (l : Addr) (L : List (List Sm × Nat)) (xs : List V), vs = [.ref l] ∧ H l = some (.lst xs) ∧ Each (LayV H) H L xs ∧ cntL L ≤ 1000 ∧ L.length ≤ 5000 ∧
  ∀ p ys H', Same H H' → H' p = some (.lst ys) → Each (LayV H) H' (below L) ys → Q (.ref p) H'
def spFits : Sp := fun vs H Q _ => ∃ (b : List Sm) (v : V), vs = [v] ∧ BdV H b v ∧ cnt b ≤ 1000 ∧ ∀ H', Same H H' → Q (.bl (fits b)) H'
section
variable {P : Program} {w : World} {K : PySem.W.Frag} {mg : Str → Option Value} {base : Heap} {D : Defs}
theorem sc_bodies_in : FnScope ["statement"] ["statement"] (defScope s_bodies_in) := ⟨rfl, rfl, rfl, by decide +kernel, rfl, by decide +kernel, by decide +kernel⟩
theorem ok_bodies (O : Ok P K mg D) : FnOk P w K mg base CX0 1 D.fbodies_in D.dbodies_in ["statement"] spBodies := by
  refine O.Fbodies_in.ok sc_bodies_in (fun vs H Q E h => ?_) (fun cdv A outer s H vs Q E hr h => ?_)
  · obtain ⟨s, v, H0, rfl, _⟩ := h
    rfl
  obtain ⟨st, v, H0, rfl, s0, hs, q⟩ := h
  refine ⟨_, pss_cons (ps_if (pt_cmpR op_eq (pe_ix ix_tup (pv 0) pe_int (fun _ _ => rfl)) pe_str (nomark _)) (pss_one (ps_ret (pe_lst (pa_cons (pe_ix ix_tup (pv 0) pe_int (fun _ _ => rfl)) (pa_cons (pe_ix ix_tup (pv 0) pe_int (fun _ _ => rfl)) pa_nil))))) pss_nil)
    (pss_cons (ps_if (pt_cmpR op_eq (pe_ix ix_tup (pv 0) pe_int (fun _ _ => rfl)) pe_str (nomark _)) (pss_one (ps_ret (pe_lst (pa_cons (pe_ix ix_tup (pv 0) pe_int (fun _ _ => rfl)) pa_nil)))) pss_nil)
    (pss_one (ps_ret (pe_lst pa_nil)))), ?_⟩
  obtain ⟨p, xs, rfl, hp0⟩ := hs.head
  have hp := s0 _ _ hp0
  refine ⟨_, rfl, p, _, _, _, rfl, rfl, SqT.of hp, atI_nat (j := 0) rfl, rfl, _, rfl, ?_⟩
  cases st with
  | ite e a b =>
    unfold SmAt at hs
    obtain ⟨p', x, la, xa, lb, xb, e1, h2, _, h4, h5, h6, h7⟩ := hs
    cases e1
    have z := Option.some.inj (hp0.symm.trans h2)
    injection z with z
    injection z with _ z2
    cases z2
    refine ifT rfl ⟨_, rfl, p, _, _, _, rfl, rfl, SqT.of hp, atI_nat (j := 2) rfl, _, rfl, p, _, _, _, rfl, rfl, SqT.of hp, atI_nat (j := 3) rfl, (by show 2 ≤ sizeLine; decide), fun l nl => ?_⟩
    exact q l _ _ (new_same nl _) nl upd_same ⟨⟨la, xa, rfl, h4, h5⟩, ⟨lb, xb, rfl, h6, h7⟩, trivial⟩
  | loop i n b =>
    unfold SmAt at hs
    obtain ⟨p', l, xs', e1, h2, h3, h4⟩ := hs
    cases e1
    have z := Option.some.inj (hp0.symm.trans h2)
    injection z with z
    injection z with _ z2
    cases z2
    refine ifF (nstr if_loop) ⟨_, rfl, p, _, _, _, rfl, rfl, SqT.of hp, atI_nat (j := 0) rfl, rfl, _, rfl, ifT rfl ?_⟩
    refine ⟨_, rfl, p, _, _, _, rfl, rfl, SqT.of hp, atI_nat (j := 3) rfl, (by show 1 ≤ sizeLine; decide), fun r nr => ?_⟩
    exact q r _ _ (new_same nr _) nr upd_same ⟨⟨l, xs', rfl, h3, h4⟩, trivial⟩
  | set i e =>
    refine ifF (nstr set_if) ⟨_, rfl, p, _, _, _, rfl, rfl, SqT.of hp, atI_nat (j := 0) rfl, rfl, _, rfl, ifF (nstr set_loop) ⟨(by show 0 ≤ sizeLine; decide), fun r nr => ?_⟩⟩
    exact q r _ _ (new_same nr _) nr upd_same trivial
  | write e ws =>
    refine ifF (nstr write_if) ⟨_, rfl, p, _, _, _, rfl, rfl, SqT.of hp, atI_nat (j := 0) rfl, rfl, _, rfl, ifF (nstr write_loop) ⟨(by show 0 ≤ sizeLine; decide), fun r nr => ?_⟩⟩
    exact q r _ _ (new_same nr _) nr upd_same trivial
  | barrier =>
    refine ifF (nstr barrier_if) ⟨_, rfl, p, _, _, _, rfl, rfl, SqT.of hp, atI_nat (j := 0) rfl, rfl, _, rfl, ifF (nstr barrier_loop) ⟨(by show 0 ≤ sizeLine; decide), fun r nr => ?_⟩⟩
    exact q r _ _ (new_same nr _) nr upd_same trivial
theorem sc_bodies_below : FnScope ["layer", "below", "body", "loops", "statement", "around", "inner"] ["layer"] (defScope s_bodies_below) := ⟨rfl, rfl, rfl, by decide +kernel, rfl, by decide +kernel, by decide +kernel⟩
theorem ok_belowB (O : Ok P K mg D) : FnOk P w K mg base CX0 2 D.fbodies_below D.dbodies_below ["layer"] spBelowB := by
  have G : FnOk P w K mg base CX0 1 D.fbodies_in D.dbodies_in ["statement"] spBodies := ok_bodies O
  refine O.Fbodies_below.ok sc_bodies_below (fun vs H Q E h => ?_) (fun cdv A outer s H vs Q E hr h => ?_)
  · obtain ⟨l, L, xs, rfl, _⟩ := h
    rfl
  obtain ⟨l, L, xs, rfl, hl, hx, hcnt, hlen, q⟩ := h
  refine ⟨_, pss_cons (ps_set (i := 1) sc_bodies_below.nd rfl (Or.inl rfl) (pe_lst pa_nil))
    (pss_cons (ps_for PassesOwn.never rfl (pi_list (pv 0)) (pg_tup rfl (pgs_cons (pg_name (i := 2) sc_bodies_below.nd rfl (Or.inl rfl)) (pgs_cons (pg_name (i := 3) sc_bodies_below.nd rfl (Or.inl rfl)) pgs_nil)))
      (pss_one (ps_for PassesOwn.never rfl (pi_list (pv 2)) (pg_name (i := 4) sc_bodies_below.nd rfl (Or.inl rfl))
        (C8.pss_cut (ps_set (i := 5) sc_bodies_below.nd rfl (Or.inr rfl) (pe_ifExp (pt_cmpR op_eq (pe_ix ix_tup (pv 4) pe_int (fun _ _ => rfl)) pe_str (nomark _)) (pe_op op_add (pv 3) pe_int) (pv 3)))
        (pss_one (ps_expr (pe_bm PySem.F.plainAttrs_list PySem.F.slot_list_extend PySem.F.type_list_extend mt_extend (pv 1) (pa_cons
          (pe_lc (own := [("inner", 6)]) (g := gName 6) (by rfl) sc_bodies_below.nd (pi_list (pe_call G hr rfl O.mbodies_in O.Fbodies_in.kp O.bbodies_in .nil pass0 (pa_cons (pv 4) pa_nil)))
            (blkOk_by (own := [("inner", 6)]) (N := ["layer", "below", "body", "loops", "statement", "around", "inner"]) (sc := defScope s_bodies_below) (by decide +kernel))
            (fun _ _ _ _ _ => pg_name (i := 6) sc_bodies_below.nd rfl (Or.inl rfl)) (fun _ _ _ _ _ => pts_nil) (fun _ _ _ _ _ => pe_tup (pa_cons (pv 6) (pa_cons (pv 5) pa_nil)))) pa_nil))))))))
    (pss_one (ps_ret (pv 1)))), ?_⟩
  have hxl := Each.len hx
  have hcnt_take : ∀ i, cntL (L.take i) ≤ cntL L := fun i => by
    have e := List.take_append_drop i L
    have := cntL_app (L.take i) (L.drop i)
    rw [e] at this
    omega
  refine ⟨(by show 0 ≤ sizeLine; decide), fun bl nb => ?_⟩
  refine ⟨_, rfl, l, rfl, ⟨_, SqL.of ((new_same nb _) _ _ hl)⟩, for_list (K := K) (a := l) (xs := xs) (fun i σ H1 => ∃ (acc : List V) (v2 v3 v4 v5 v6 : Option V), σ = [some (.ref l), some (.ref bl), v2, v3, v4, v5, v6] ∧ H1 bl = some (.lst acc) ∧ Same H H1 ∧ Each (LayV H) H1 (below (L.take i)) acc)
    ⟨[], none, none, none, none, none, rfl, upd_same, new_same nb _, trivial⟩ (fun i σ H1 _ ⟨_, _, _, _, _, _, _, _, s1, _⟩ => SqL.of (s1 _ _ hl)) ?_ ?_⟩
  · rintro i x σ H1 hi ⟨acc, v2, v3, v4, v5, v6, rfl, hbl, s1, ha⟩
    obtain ⟨⟨b, n⟩, hei, p, qb, rfl, hp, hb⟩ := Each.get hx hi
    obtain ⟨pb, ys, rfl, hpb, hys⟩ := hb
    have hysl := hys.len
    refine ⟨p, _, rfl, SqT.of (s1 _ _ hp), rfl, _, _, rfl, _, _, rfl, rfl, ?_⟩
    have hbnd : cnt b ≤ 1000 := by
      have := hcnt_take (i + 1)
      rw [take_more hei, cntL_app] at this
      have e : cntL [(b, n)] = cnt b := by rw [cntL, cntL, Nat.add_zero]
      rw [e] at this
      omega
    have hbl2 := len_cnt b
    have hal : acc.length ≤ 2000 := by
      rw [Each.len ha]
      have := below_len (L.take i)
      have := hcnt_take i
      omega
    refine ⟨_, rfl, pb, rfl, ⟨_, SqL.of (s1 _ _ hpb)⟩, for_list (K := K) (a := pb) (xs := ys) (fun j σ H2 => ∃ (acc : List V) (v4 v5 v6 : Option V), σ = [some (.ref l), some (.ref bl), some (.ref pb), some (.int n), v4, v5, v6] ∧ H2 bl = some (.lst acc) ∧ Same H H2 ∧ acc.length ≤ 2000 + 2 * j ∧ Each (LayV H) H2 (below (L.take i) ++ (b.take j).flatMap fun s => belowS s n) acc)
      ⟨acc, v4, v5, v6, rfl, hbl, s1, by omega, by rw [List.take_zero, List.flatMap_nil, List.append_nil]; exact ha⟩ (fun j σ H2 _ ⟨_, _, _, _, _, _, s2, _⟩ => SqL.of (s2 _ _ hpb)) ?_ ?_⟩
    · rintro j y σ H2 hj ⟨acc2, v4, v5, v6, rfl, hbl2', s2, hac, ha2⟩
      obtain ⟨st, hst, hsty⟩ := hys.get hj
      have hjl : j < b.length := (List.getElem?_eq_some_iff.mp hst).1
      obtain ⟨p4, xs4, rfl, hp4⟩ := hsty.head
      have hp4' := s2 _ _ hp4
      refine ⟨fun σ H' => σ = [some (.ref l), some (.ref bl), some (.ref pb), some (.int n), some (.ref p4), some (.int ((around st n : Nat) : Int)), v6] ∧ H' = H2, ?_, ?_⟩
      · refine ⟨_, rfl, p4, _, _, _, rfl, rfl, SqT.of hp4', atI_nat (j := 0) rfl, rfl, _, rfl, ?_⟩
        cases st with
        | loop i' n' b' => exact ifT rfl ⟨_, rfl, _, _, rfl, rfl, rfl, rfl⟩
        | ite e' a' b' => exact ifF (nstr if_not_loop) ⟨_, rfl, rfl, rfl⟩
        | set i' e' => exact ifF (nstr set_loop) ⟨_, rfl, rfl, rfl⟩
        | write e' ws' => exact ifF (nstr write_loop) ⟨_, rfl, rfl, rfl⟩
        | barrier => exact ifF (nstr barrier_loop) ⟨_, rfl, rfl, rfl⟩
      · rintro σ H' ⟨rfl, rfl⟩
        refine ⟨_, rfl, .inl ⟨rfl, _, SqL.of hbl2'⟩, _, rfl, st, _, H, rfl, s2, hsty, fun pi zs H3 s3 np hpi hz => ⟨pi, rfl, ⟨_, SqL.of hpi⟩, fun d nd => ?_⟩⟩
        have hzl := Each.len hz
        have hil : (inner st).length ≤ 2 := by
          have := belowS_len st n
          unfold belowS at this
          rwa [List.length_map] at this
        refine walkL (K := K) (a := pi) (xs := zs) (fun k H4 => ∃ acc3, H4 d = some (.lst acc3) ∧ Same H3 H4 ∧ Each (LayV H) H4 (((inner st).take k).map fun b => (b, around st n)) acc3)
          ⟨[], upd_same, new_same nd _, trivial⟩ (fun k H4 _ ⟨_, _, s4, _⟩ => SqL.of (s4 _ _ hpi)) ?_ ?_
        · rintro k z H4 hk ⟨acc3, hd, s4, ha3⟩
          obtain ⟨b', hb', hbz⟩ := Each.get hz hk
          refine ⟨rfl, yes (iteT ?_)⟩
          refine ⟨_, rfl, _, rfl, (by show 2 ≤ sizeLine; decide), fun t nt => ?_⟩
          have hdt : d ≠ t := ne_of_none hd nt
          have sT := new_same nt (.tup [z, .int ((around st n : Nat) : Int)])
          have hd' := sT _ _ hd
          refine ⟨acc3, hd', ?_, acc3 ++ [.ref t], upd_same, ?_, ?_⟩
          · rw [Each.len ha3, List.length_map, List.length_take]
            exact small5 (by omega)
          · intro c o e
            have e4 := s4 _ _ e
            have hcd : c ≠ d := fun y => by rw [y, nd] at e; cases e
            rw [upd_ne hcd]
            exact sT _ _ e4
          · rw [take_more hb', List.map_append]
            refine Each.app (Each.mono (fun a v h => (h.t (sameT sT)).t (sameT_lst hd')) ha3) ⟨⟨t, z, rfl, ?_, hbz⟩, trivial⟩
            rw [upd_ne hdt.symm]
            exact upd_same
        · rintro H4 ⟨acc3, hd, s4, ha3⟩
          rw [hzl, List.take_length] at ha3
          have hbl4 := s4 _ _ (s3 _ _ hbl2')
          have h3l := Each.len ha3
          rw [List.length_map] at h3l
          refine ⟨bl, d, acc2, acc3, rfl, rfl, hbl4, hd, Nat.le_of_lt (small5 (by omega)), ?_⟩
          refine ⟨acc2 ++ acc3, _, _, _, rfl, upd_same, ?_, ?_, ?_⟩
          · intro c o e
            rw [upd_ne (ne_of_none e nb)]
            exact s4 _ _ (s3 _ _ (s2 _ _ e))
          · rw [List.length_append]
            omega
          · rw [take_more hst, List.flatMap_append, List.flatMap_cons, List.flatMap_nil, List.append_nil, ← List.append_assoc]
            refine Each.app (Each.mono (fun a v h => ((h.t (sameT s3)).t (sameT s4)).t (sameT_lst hbl4)) ha2) ?_
            exact Each.mono (fun a v h => h.t (sameT_lst hbl4)) ha3
    · rintro σ H2 ⟨acc2, v4, v5, v6, rfl, hbl2', s2, _, ha2⟩
      rw [hysl, List.take_length] at ha2
      refine ⟨acc2, _, _, _, _, _, rfl, hbl2', s2, ?_⟩
      rw [take_more hei, below_flat, List.flatMap_append, ← below_flat, List.flatMap_cons, List.flatMap_nil, List.append_nil]
      exact ha2
  · rintro σ H1 ⟨acc, v2, v3, v4, v5, v6, rfl, hbl, s1, ha⟩
    rw [hxl, List.take_length] at ha
    exact ⟨_, rfl, q bl acc H1 s1 hbl ha⟩
end
end S2
namespace S2
open PySem L2
theorem lens_le : ∀ L : List (List Sm × Nat), lens L ≤ cntL L
  | [] => Nat.le_refl _
  | (b, n) :: r => by
    have h1 := len_cnt b
    have h2 := lens_le r
    rw [lens, cntL]
    omega
theorem lens_app : ∀ L M : List (List Sm × Nat), lens (L ++ M) = lens L + lens M
  | [], M => by rw [List.nil_append, lens, Nat.zero_add]
  | (b, n) :: r, M => by rw [List.cons_append, lens, lens, lens_app r M, Nat.add_assoc]
theorem sum_lens : ∀ L : List (List Sm × Nat), ((L.map fun p => ((p.1.length : Nat) : Int))).sum = ((lens L : Nat) : Int)
  | [] => rfl
  | (b, n) :: r => by
    rw [List.map_cons, List.sum_cons, sum_lens r, lens]
    show ((b.length : Nat) : Int) + _ = _
    omega
def spWrite (D : Defs) : Sp := fun vs H Q E => ∃ (e : Ex) (ws : List Ex) (S : Sc) (v u : V), vs = [v, u] ∧ SmAt H (.write e ws) v ∧ ScV D.cScope S H u ∧ Res D.cErr (chkS S (.write e ws)) H Q E
def spStmt (D : Defs) : Sp := fun vs H Q E => ∃ (s : Sm) (S : Sc) (v u : V), vs = [v, u] ∧ SmAt H s v ∧ ScV D.cScope S H u ∧ Res D.cErr (chkS S s) H Q E
def spStmts (D : Defs) (n : Nat) : Sp := fun vs H Q E => ∃ (b : List Sm) (S : Sc) (v u : V), vs = [v, u] ∧ BdV H b v ∧ ScV D.cScope S H u ∧ hgt b ≤ n ∧ Res D.cErr (chkB S b) H Q E
def spBody (D : Defs) : Sp := fun vs H Q E => ∃ (b : List Sm) (S : Sc) (v u : V), vs = [v, u] ∧ BdV H b v ∧ ScV D.cScope S H u ∧ cnt b ≤ 1000 ∧ Res D.cErr (chkBody S b) H Q E
/-- len(x), the reading -/
def rLenS (K : PySem.W.Frag) : List V → Hp → VK → Prop := fun xs H Q => ∃ p ys, xs = [.ref p] ∧ (SqL K H p ys ∨ SqT K H p ys) ∧ Q (.int ys.length) H
section
variable {P : Program} {w : World} {K : PySem.W.Frag} {mg : Str → Option Value} {base : Heap} {D : Defs}
theorem sc_fits : FnScope ["body", "many", "layer", "_", "inner", "loops"] ["body"] (defScope s_fits) := ⟨rfl, rfl, rfl, by decide +kernel, rfl, by decide +kernel, by decide +kernel⟩
theorem ok_fits (O : Ok P K mg D) : FnOk P w K mg base CX0 3 D.ffits D.dfits ["body"] spFits := by
  have G : FnOk P w K mg base CX0 2 D.fbodies_below D.dbodies_below ["layer"] spBelowB := ok_belowB O
  refine O.Ffits.ok sc_fits (fun vs H Q E h => ?_) (fun cdv A outer s H vs Q E hr h => ?_)
  · obtain ⟨b, v, rfl, _⟩ := h
    rfl
  obtain ⟨b, v, rfl, hb, hc, q⟩ := h
  obtain ⟨t4, k4⟩ := O.kDEEPEST_BODY
  obtain ⟨t60, k60⟩ := O.kMOST_STATEMENTS
  obtain ⟨t2, k2⟩ := O.kDEEPEST_LOOP
  refine ⟨_, pss_cons (ps_set (i := 1) sc_fits.nd rfl (Or.inl rfl) pe_int)
    (pss_cons (ps_set (i := 2) sc_fits.nd rfl (Or.inl rfl) (pe_lst (pa_cons (pe_tup (pa_cons (pv 0) (pa_cons pe_int pa_nil))) pa_nil)))
    (pss_cons (ps_for PassesOwn.never rfl (pi_range1 (by rfl) O.zrange (pa_cons (pe_glob (v := .int 4) (by rfl) k4 ⟨_, rfl⟩) pa_nil)) (pg_name (i := 3) sc_fits.nd rfl (Or.inl rfl))
      (pss_cons (ps_aug (i := 1) sc_fits.nd rfl (Or.inl rfl) (pe_callB (cr_sum rfl) (by rfl) O.zsum (by decide +kernel) (pa_cons
          (pe_lc (own := [("inner", 4), ("loops", 5)]) (g := gTup K 2 (gCons (gName 4) (gCons (gName 5) gNil))) (te := tCB (rLenS K) (tCons (tVar 4) tNil)) (by rfl) sc_fits.nd (pi_list (pv 2))
            (blkOk_by (own := [("inner", 4), ("loops", 5)]) (N := ["body", "many", "layer", "_", "inner", "loops"]) (sc := defScope s_fits) (by decide +kernel))
            (fun _ _ _ _ _ => pg_tup rfl (pgs_cons (pg_name (i := 4) sc_fits.nd rfl (Or.inl rfl)) (pgs_cons (pg_name (i := 5) sc_fits.nd rfl (Or.inl rfl)) pgs_nil))) (fun _ _ _ _ _ => pts_nil) (fun _ _ _ _ _ => pe_callB call_len_seq (by rfl) O.zlen PySem.boot_len (pa_cons (pv 4) pa_nil))) pa_nil)) ip_add)
      (pss_cons (ps_if (PW.pt (pw_or (pt_cmpR op_gt (pv 1) (pe_glob (v := .int 60) (by rfl) k60 ⟨_, rfl⟩) (nomark _)) (pw_or1 (pt_val (pe_callB (cr_any rfl) (by rfl) O.zany (by decide +kernel) (pa_cons
          (pe_lc (own := [("inner", 4), ("loops", 5)]) (g := gTup K 2 (gCons (gName 4) (gCons (gName 5) gNil))) (by rfl) sc_fits.nd (pi_list (pv 2))
            (blkOk_by (own := [("inner", 4), ("loops", 5)]) (N := ["body", "many", "layer", "_", "inner", "loops"]) (sc := defScope s_fits) (by decide +kernel))
            (fun _ _ _ _ _ => pg_tup rfl (pgs_cons (pg_name (i := 4) sc_fits.nd rfl (Or.inl rfl)) (pgs_cons (pg_name (i := 5) sc_fits.nd rfl (Or.inl rfl)) pgs_nil))) (fun _ _ _ _ _ => pts_nil) (fun _ _ _ _ _ => pe_cmpR op_gt (pv 5) (pe_glob (v := .int 2) (by rfl) k2 ⟨_, rfl⟩) (nomark _))) pa_nil))))))
        (pss_one (ps_ret pe_bl)) pss_nil)
      (pss_one (ps_set (i := 2) sc_fits.nd rfl (Or.inl rfl) (pe_call G hr rfl O.mbodies_below O.Fbodies_below.kp O.bbodies_below .nil pass0 (pa_cons (pv 2) pa_nil)))))))
    (pss_one (ps_ret (pe_notT (pv 2)))))), ?_⟩
  refine ⟨_, rfl, (by show 2 ≤ sizeLine; decide), fun t0 nt0 => ⟨(by show 1 ≤ sizeLine; decide), fun l0 nl0 => ?_⟩⟩
  have s0 : Same H _ := (new_same nt0 (.tup [v, .int 0])).trans (new_same nl0 (.lst [.ref t0]))
  refine ⟨4, rfl, by decide, by decide, for_range (lo := 0) (n := 4) (fun i σ H1 => ∃ (many : Nat) (L : List (List Sm × Nat)) (p : Addr) (xs : List V) (v3 : Option V), σ = [some v, some (.int ((many : Nat) : Int)), some (.ref p), v3, none, none] ∧ Same H H1 ∧ H1 p = some (.lst xs) ∧ Each (LayV H1) H1 L xs ∧ cntL L ≤ 1000 ∧ L.length ≤ 5000 ∧ fits b = fitsL (4 - i) many L)
    ⟨0, [(b, 0)], l0, _, none, rfl, s0, upd_same, ⟨⟨t0, v, rfl, by rw [upd_ne (ne_of_none upd_same nl0)]; exact upd_same, hb.same s0⟩, trivial⟩, by rw [cntL, cntL]; omega, by simp, rfl⟩ ?_ ?_⟩
  · rintro i σ H1 hi ⟨many, L, p, xs, v3, rfl, s1, hp, hx, hcL, hlL, hf⟩
    have hxl := Each.len hx
    have h4i : 4 - i = (4 - (i + 1)) + 1 := by omega
    rw [h4i, fitsL] at hf
    -- the statements of this layer
    refine ⟨_, rfl, _, rfl, p, rfl, ⟨_, SqL.of hp⟩, fun d nd => ?_⟩
    refine walkL (K := K) (a := p) (xs := xs) (fun k H2 => Same H1 H2 ∧ H2 d = some (.lst (((L.take k).map fun y => ((y.1.length : Nat) : Int)).map V.int)))
      ⟨new_same nd _, upd_same⟩ (fun k H2 _ ⟨s2, _⟩ => SqL.of (s2 _ _ hp)) ?_ ?_
    · rintro k x H2 hk ⟨s2, hd⟩
      obtain ⟨⟨b', n'⟩, hb', p', q', rfl, hp', pb, ys, rfl, hpb, hys⟩ := Each.get hx hk
      refine ⟨p', _, rfl, SqT.of (s2 _ _ hp'), rfl, _, _, rfl, _, _, rfl, rfl, rfl, yes (iteT ?_)⟩
      have hkl := (List.getElem?_eq_some_iff.mp hk).1
      refine ⟨_, rfl, pb, ys, rfl, .inl (SqL.of (s2 _ _ hpb)), _, hd, ?_, ?_, ?_⟩
      · rw [List.length_map, List.length_map, List.length_take]
        exact small5 (by omega)
      · intro c o e
        rw [upd_ne (ne_of_none e nd)]
        exact s2 _ _ e
      · rw [upd_same, take_more hb', hys.len, List.map_append, List.map_append]
        rfl
    rintro H2 ⟨s2, hd⟩
    rw [hxl, List.take_length] at hd
    refine ⟨d, _, rfl, SqL.of hd, ?_⟩
    rw [sum_lens]
    refine ⟨_, _, rfl, rfl, ?_⟩
    -- the test
    refine ⟨_, rfl, _, _, rfl, rfl, _, rfl, ?_⟩
    have hm : ((many : Nat) : Int) + ((lens L : Nat) : Int) = ((many + lens L : Nat) : Int) := by omega
    refine ite2 (fun c => ?_) (fun c => ?_)
    · have c' : (60 : Int) < ((many : Nat) : Int) + ((lens L : Nat) : Int) := of_decide_eq_true c
      rw [if_pos (.inl (by omega))] at hf
      rw [hf] at q
      exact iteT (q H2 (s1.trans s2))
    have c' : ¬ (60 : Int) < ((many : Nat) : Int) + ((lens L : Nat) : Int) := fun z => c (decide_eq_true z)
    refine ⟨_, rfl, p, rfl, ⟨_, SqL.of (s2 _ _ hp)⟩, fun d2 nd2 => ?_⟩
    refine walkL (K := K) (a := p) (xs := xs) (fun k H3 => Same H2 H3 ∧ H3 d2 = some (.lst (((L.take k).map fun y => decide (y.2 > 2)).map V.bl)))
      ⟨new_same nd2 _, upd_same⟩ (fun k H3 _ ⟨s3, _⟩ => SqL.of (s3 _ _ (s2 _ _ hp))) ?_ ?_
    · rintro k x H3 hk ⟨s3, hd2⟩
      obtain ⟨⟨b', n'⟩, hb', p', q', rfl, hp', pb, ys, rfl, hpb, hys⟩ := Each.get hx hk
      refine ⟨p', _, rfl, SqT.of (s3 _ _ (s2 _ _ hp')), rfl, _, _, rfl, _, _, rfl, rfl, rfl, yes (iteT ?_)⟩
      have hkl := (List.getElem?_eq_some_iff.mp hk).1
      refine ⟨_, rfl, _, _, rfl, rfl, _, hd2, ?_, ?_, ?_⟩
      · rw [List.length_map, List.length_map, List.length_take]
        exact small5 (by omega)
      · intro c o e
        rw [upd_ne (ne_of_none e nd2)]
        exact s3 _ _ e
      · rw [upd_same, take_more hb', List.map_append, List.map_append]
        have e : decide ((2 : Int) < ((n' : Nat) : Int)) = decide (n' > 2) := by
          apply Bool.eq_iff_iff.mpr
          rw [decide_eq_true_eq, decide_eq_true_eq]
          omega
        show some (HO.lst (_ ++ [V.bl (decide ((2 : Int) < ((n' : Nat) : Int)))])) = _
        rw [e]
        rfl
    rintro H3 ⟨s3, hd2⟩
    rw [hxl, List.take_length] at hd2
    refine ⟨d2, _, rfl, SqL.of hd2, _, rfl, ?_⟩
    have e3 : ((L.map fun y => decide (y.2 > 2)).any id) = L.any fun p => decide (p.2 > 2) := by
      rw [List.any_map]
      rfl
    rw [e3]
    refine ite2 (fun z => ?_) (fun z => ?_)
    · rw [if_pos (.inr z)] at hf
      rw [hf] at q
      exact q H3 (s1.trans (s2.trans s3))
    · rw [if_neg (fun y => y.elim (fun y => c' (by omega)) z)] at hf
      have s123 := s2.trans s3
      refine ⟨_, rfl, p, L, xs, rfl, s123 _ _ hp, Each.imp (fun a v h => (h.up s123).t (sameT s123)) hx, hcL, hlL, fun r ys H4 s4 hr4 hy => ?_⟩
      have hcb := cntL_below L
      refine ⟨many + lens L, below L, r, ys, some (.int (0 + (i : Int))), ?_, s1.trans (s123.trans s4), hr4, Each.imp (fun a v h => h.up s4) hy, by omega, Nat.le_trans (below_len L) (by omega), hf⟩
      rw [← hm]
      rfl
  · rintro σ H1 ⟨many, L, p, xs, v3, rfl, s1, hp, hx, hcL, hlL, hf⟩
    refine ⟨_, rfl, !xs.isEmpty, .inl ⟨xs, SqL.of hp, rfl⟩, ?_⟩
    have e : (!!xs.isEmpty) = fits b := by
      rw [hf, Bool.not_not]
      have hl := Each.len hx
      show xs.isEmpty = L.isEmpty
      cases L with
      | nil =>
        cases xs with
        | nil => rfl
        | cons a r => cases hl
      | cons a r =>
        cases xs with
        | nil => cases hl
        | cons b r => rfl
    rw [e]
    exact q H1 s1
end
end S2
namespace S2
open PySem L2
theorem write_head {H : Hp} {e : Ex} {ws : List Ex} {v : V} (h : SmAt H (.write e ws) v) : ∃ p x l xs, v = .ref p ∧ H p = some (.tup [.str "write", x, .ref l]) ∧ ExAt H e x ∧ H l = some (.lst xs) ∧ ExsAt H ws xs := by
  unfold SmAt at h
  exact h
theorem hgtS_inner (s : Sm) (b : List Sm) (h : b ∈ inner s) : hgt b ≤ hgtS s := by
  cases s with
  | ite e x y =>
    rcases List.mem_cons.mp h with rfl | h
    · rw [hgtS]; omega
    · rcases List.mem_cons.mp h with rfl | h
      · rw [hgtS]; omega
      · cases h
  | loop i n x =>
    rcases List.mem_cons.mp h with rfl | h
    · rw [hgtS]; omega
    · cases h
  | set i e => cases h
  | write e ws => cases h
  | barrier => cases h
theorem hgt_mem : ∀ (b : List Sm) (s : Sm), s ∈ b → 1 + hgtS s ≤ hgt b
  | [], _, h => by cases h
  | x :: r, s, h => by
    rw [hgt]
    rcases List.mem_cons.mp h with rfl | h
    · omega
    · have := hgt_mem r s h
      omega
theorem hgt_pos : ∀ b : List Sm, 1 ≤ hgt b
  | [] => by rw [hgt]; exact Nat.le_refl _
  | x :: r => by rw [hgt]; omega
/-- the limits that fits asks -/
theorem hgtL_below (k : Nat) : ∀ L : List (List Sm × Nat), (∀ p ∈ L, hgt p.1 ≤ k + 1) → ∀ p ∈ below L, hgt p.1 ≤ k := by
  intro L h p hp
  rw [below_flat] at hp
  obtain ⟨x, hx, hp⟩ := List.mem_flatMap.mp hp
  obtain ⟨s, hs, hp⟩ := List.mem_flatMap.mp hp
  unfold belowS at hp
  obtain ⟨b, hb, rfl⟩ := List.mem_map.mp hp
  have h1 := hgtS_inner s b hb
  have h2 := hgt_mem x.1 s hs
  have h3 := h x hx
  show hgt b ≤ k
  omega
theorem fitsL_hgt : ∀ (k many : Nat) (L : List (List Sm × Nat)), fitsL k many L = true → ∀ p ∈ L, hgt p.1 ≤ k
  | 0, many, L, h => by
    rw [fitsL, List.isEmpty_iff] at h
    rw [h]
    intro p hp
    cases hp
  | k + 1, many, L, h => by
    rw [fitsL] at h
    split at h
    · cases h
    · have ih := fitsL_hgt k _ _ h
      intro p hp
      cases hq : p.1 with
      | nil => rw [hgt]; omega
      | cons s r =>
        have key : ∀ x : List Sm, (∀ s ∈ x, hgtS s ≤ k) → hgt x ≤ k + 1 := by
          intro x
          induction x with
          | nil => intro _; rw [hgt]; omega
          | cons s r ih =>
            intro hx
            have h1 := hx s List.mem_cons_self
            have h2 := ih fun s hs => hx s (List.mem_cons_of_mem _ hs)
            rw [hgt]
            omega
        rw [← hq]
        refine key p.1 fun s hs => ?_
        have inn : ∀ b ∈ inner s, hgt b ≤ k := fun b hb => ih (b, around s p.2) (by
          rw [below_flat]
          exact List.mem_flatMap.mpr ⟨p, hp, List.mem_flatMap.mpr ⟨s, hs, List.mem_map.mpr ⟨b, hb, rfl⟩⟩⟩)
        cases s with
        | ite e x y =>
          have h1 := inn x List.mem_cons_self
          have h2 := inn y (List.mem_cons_of_mem _ List.mem_cons_self)
          rw [hgtS]; omega
        | loop i n x =>
          have h1 := inn x List.mem_cons_self
          rw [hgtS]; omega
        | set i e => simp [hgtS]
        | write e ws => simp [hgtS]
        | barrier => simp [hgtS]
theorem fits_hgt {b : List Sm} (h : fits b = true) : hgt b ≤ 4 := fitsL_hgt 4 0 [(b, 0)] h (b, 0) List.mem_cons_self
section
variable {P : Program} {w : World} {K : PySem.W.Frag} {mg : Str → Option Value} {base : Heap} {D : Defs}
theorem sc_check_write : FnScope ["statement", "scope", "_", "sector", "words", "e"] ["statement", "scope"] (defScope s_check_write) := ⟨rfl, rfl, rfl, by decide +kernel, rfl, by decide +kernel, by decide +kernel⟩
theorem ok_write (O : Ok P K mg D) : FnOk P w K mg base (L2.CX P w) 11 D.fcheck_write D.dcheck_write ["statement", "scope"] (spWrite D) := by
  have GR : FnOk P w K mg base (L2.CX P w) 3 D.frequire D.drequire ["kept", "rule"] (spRequire D.cErr) := ok_require O
  have GE : FnOk P w K mg base (L2.CX P w) 10 D.fcheck_expression D.dcheck_expression ["e", "scope"] (spCheckE D) := ok_checkE O
  refine O.Fcheck_write.okX sc_check_write (fun vs H Q E h => ?_) (fun cdv A outer s H vs Q E hr h => ?_)
  · obtain ⟨e, ws, S, v, u, rfl, _⟩ := h
    rfl
  obtain ⟨e, ws, S, v, u, rfl, hs, hS, q⟩ := h
  have hr3 : Room 3 _ := hr.mono (by decide)
  obtain ⟨p, x, l, xs, rfl, hp, hx, hl, hxs⟩ := write_head hs
  refine ⟨_, pss_cons (ps_asg (pv 0) (pg_tup rfl (pgs_cons (pg_name (i := 2) sc_check_write.nd rfl (Or.inl rfl)) (pgs_cons (pg_name (i := 3) sc_check_write.nd rfl (Or.inl rfl)) (pgs_cons (pg_name (i := 4) sc_check_write.nd rfl (Or.inl rfl)) pgs_nil)))))
    (pss_cons (ps_expr (pe_call GR hr3 rfl O.mrequire O.Frequire.kp O.brequire .nil (passes_call (takes_of rfl rfl rfl rfl) (fun _ _ _ _ h => h)) (pa_cons (pe_fld (pv 1) rfl) (pa_cons pe_str pa_nil))))
    (pss_cons (ps_expr (pe_call GE hr rfl O.mcheck_expression O.Fcheck_expression.kp O.bcheck_expression .nil (passes_call (takes_of rfl rfl rfl rfl) (fun _ _ _ _ h => h)) (pa_cons (pv 3) (pa_cons (pv 1) pa_nil))))
    (pss_cons (ps_expr (pe_call GR hr3 rfl O.mrequire O.Frequire.kp O.brequire .nil (passes_call (takes_of rfl rfl rfl rfl) (fun _ _ _ _ h => h)) (pa_cons (pe_cmpR op_eq (pe_callB call_len_seq (by rfl) O.zlen PySem.boot_len (pa_cons (pv 4) pa_nil)) (pe_fld (pv 1) rfl) (nomark _)) (pa_cons pe_str pa_nil))))
    (pss_one (ps_for (passes_of rfl) rfl (pi_list (pv 4)) (pg_name (i := 5) sc_check_write.nd rfl (Or.inl rfl))
      (pss_one (ps_expr (pe_call GE hr rfl O.mcheck_expression O.Fcheck_expression.kp O.bcheck_expression .nil (passes_call (takes_of rfl rfl rfl rfl) (fun _ _ _ _ h => h)) (pa_cons (pv 5) (pa_cons (pv 1) pa_nil)))))))))), ?_⟩
  obtain ⟨ps, dx, t, rfl, h2, h3, hlen⟩ := id hS
  refine ⟨_, rfl, p, _, rfl, SqT.of hp, rfl, _, _, rfl, _, _, rfl, _, _, rfl, rfl, ?_⟩
  refine ⟨_, rfl, ps, D.cScope, dx, _, _, rfl, h2, O.clScope, O.nwrites, scF_writes S t, S.writes, _, rfl, by decide +kernel, ?_⟩
  refine Res.step q fun _ H1 s1 q1 => ?_
  refine ⟨_, rfl, _, rfl, e, S, x, _, rfl, hx.same s1, hS.same s1, ?_⟩
  refine q1.step fun _ H2 s2 q2 => ?_
  have s12 := s1.trans s2
  refine ⟨_, rfl, l, xs, rfl, .inl (SqL.of (s12 _ _ hl)), _, rfl, ps, D.cScope, dx, _, _, rfl, s12 _ _ h2, O.clScope, O.nwidth, scF_width S t, rfl, _, _, rfl, by decide +kernel, ?_⟩
  have hxl := hxs.len
  have e1 : (if decide (V.int ((xs.length : Nat) : Int) = V.int S.width) = true then (none : Option Str) else some ("width" : Str)) = (if (ws.length : Int) = S.width then (none : Option Str) else some ("width" : Str)) := by
    rw [hxl]
    by_cases c : (ws.length : Int) = S.width
    · rw [if_pos c, if_pos (decide_eq_true (congrArg V.int c))]
    · rw [if_neg c, if_neg (fun y => c (V.int.inj (of_decide_eq_true y)))]
  rw [e1]
  refine q2.step fun _ H3 s3 q3 => ?_
  have s123 := s12.trans s3
  refine ⟨_, rfl, l, rfl, ⟨_, SqL.of (s123 _ _ hl)⟩, for_list (K := K) (a := l) (xs := xs) (fun i σ H4 => ∃ z : Option V, σ = [some (.ref p), some (.ref ps), some (.str "write"), some x, some (.ref l), z] ∧ Same H H4 ∧ Res D.cErr (chkEs S (ws.drop i)) H4 Q E)
    ⟨none, rfl, s123, q3⟩ (fun i σ H4 _ ⟨_, _, s4, _⟩ => SqL.of (s4 _ _ hl)) ?_ ?_⟩
  · rintro i y σ H4 hi ⟨z, rfl, s4, q4⟩
    obtain ⟨e', he', hy⟩ := hxs.get hi
    have hlt := List.getElem?_eq_some_iff.mp he'
    have hdrop : ws.drop i = e' :: ws.drop (i + 1) := by rw [List.drop_eq_getElem_cons hlt.1, hlt.2]
    rw [hdrop] at q4
    refine ⟨_, rfl, _, rfl, e', S, y, _, rfl, hy.same s4, hS.same s4, ?_⟩
    exact Res.step q4 fun _ H5 s5 q5 => ⟨_, rfl, s4.trans s5, q5⟩
  · rintro σ H4 ⟨z, rfl, s4, q4⟩
    rw [hxl, List.drop_length] at q4
    exact q4 H4 (Same.refl _)
theorem sc_check_statement : FnScope ["statement", "scope", "kind"] ["statement", "scope"] (defScope s_check_statement) := ⟨rfl, rfl, rfl, by decide +kernel, rfl, by decide +kernel, by decide +kernel⟩
theorem ok_stmt (O : Ok P K mg D) : FnOk P w K mg base (L2.CX P w) 12 D.fcheck_statement D.dcheck_statement ["statement", "scope"] (spStmt D) := by
  have GR : FnOk P w K mg base (L2.CX P w) 3 D.frequire D.drequire ["kept", "rule"] (spRequire D.cErr) := ok_require O
  have GV : FnOk P w K mg base (L2.CX P w) 4 D.fcheck_variable D.dcheck_variable ["v", "scope"] (spVariable D) := ok_variable O
  have GE : FnOk P w K mg base (L2.CX P w) 10 D.fcheck_expression D.dcheck_expression ["e", "scope"] (spCheckE D) := ok_checkE O
  have GW : FnOk P w K mg base (L2.CX P w) 11 D.fcheck_write D.dcheck_write ["statement", "scope"] (spWrite D) := ok_write O
  refine O.Fcheck_statement.okX sc_check_statement (fun vs H Q E h => ?_) (fun cdv A outer s H vs Q E hr h => ?_)
  · obtain ⟨st, S, v, u, rfl, _⟩ := h
    rfl
  obtain ⟨st, S, v, u, rfl, hs, hS, q⟩ := h
  have hr3 : Room 3 _ := hr.mono (by decide)
  have hr4 : Room 4 _ := hr.mono (by decide)
  have hr10 : Room 10 _ := hr.mono (by decide)
  obtain ⟨t8, k8⟩ := O.kMOST_ROUNDS
  refine ⟨_, pss_cons (ps_set (i := 2) sc_check_statement.nd rfl (Or.inl rfl) (pe_ix ix_tup (pv 0) pe_int (fun _ _ => rfl)))
    (pss_one (ps_if (pt_cmpR op_eq (pv 2) pe_str (nomark _))
      (pss_cons (ps_expr (pe_call GV hr4 rfl O.mcheck_variable O.Fcheck_variable.kp O.bcheck_variable .nil (passes_call (takes_of rfl rfl rfl rfl) (fun _ _ _ _ h => h)) (pa_cons (pe_ix ix_tup (pv 0) pe_int (fun _ _ => rfl)) (pa_cons (pv 1) pa_nil))))
      (pss_one (ps_expr (pe_call GE hr10 rfl O.mcheck_expression O.Fcheck_expression.kp O.bcheck_expression .nil (passes_call (takes_of rfl rfl rfl rfl) (fun _ _ _ _ h => h)) (pa_cons (pe_ix ix_tup (pv 0) pe_int (fun _ _ => rfl)) (pa_cons (pv 1) pa_nil))))))
      (pss_one (ps_if (pt_cmpR op_eq (pv 2) pe_str (nomark _))
        (pss_one (ps_expr (pe_call GW hr rfl O.mcheck_write O.Fcheck_write.kp O.bcheck_write .nil (passes_call (takes_of rfl rfl rfl rfl) (fun _ _ _ _ h => h)) (pa_cons (pv 0) (pa_cons (pv 1) pa_nil)))))
        (pss_one (ps_if (pt_cmpR op_eq (pv 2) pe_str (nomark _))
          (pss_one (ps_expr (pe_call GR hr3 rfl O.mrequire O.Frequire.kp O.brequire .nil (passes_call (takes_of rfl rfl rfl rfl) (fun _ _ _ _ h => h)) (pa_cons (pe_fld (pv 1) rfl) (pa_cons pe_str pa_nil)))))
          (pss_one (ps_if (pt_cmpR op_eq (pv 2) pe_str (nomark _))
            (pss_one (ps_expr (pe_call GE hr10 rfl O.mcheck_expression O.Fcheck_expression.kp O.bcheck_expression .nil (passes_call (takes_of rfl rfl rfl rfl) (fun _ _ _ _ h => h)) (pa_cons (pe_ix ix_tup (pv 0) pe_int (fun _ _ => rfl)) (pa_cons (pv 1) pa_nil)))))
            (pss_cons (ps_expr (pe_call GV hr4 rfl O.mcheck_variable O.Fcheck_variable.kp O.bcheck_variable .nil (passes_call (takes_of rfl rfl rfl rfl) (fun _ _ _ _ h => h)) (pa_cons (pe_ix ix_tup (pv 0) pe_int (fun _ _ => rfl)) (pa_cons (pv 1) pa_nil))))
            (pss_one (ps_expr (pe_call GR hr3 rfl O.mrequire O.Frequire.kp O.brequire .nil (passes_call (takes_of rfl rfl rfl rfl) (fun _ _ _ _ h => h)) (pa_cons (pe_chain op_le op_le pe_int (pe_ix ix_tup (pv 0) pe_int (fun _ _ => rfl)) (pe_glob (v := .int 8) (by rfl) k8 ⟨_, rfl⟩)) (pa_cons pe_str pa_nil)))))))))))))), ?_⟩
  obtain ⟨ps, dx, t, rfl, h2, h3, hlen⟩ := id hS
  obtain ⟨p, xs0, rfl, hp0⟩ := hs.head
  refine ⟨_, rfl, p, _, _, _, rfl, rfl, SqT.of hp0, atI_nat (j := 0) rfl, ?_⟩
  cases st with
  | set i e =>
    unfold SmAt at hs
    obtain ⟨p', x, e1, hp, hx⟩ := hs
    cases e1
    refine ⟨_, rfl, rfl, _, rfl, ifT rfl ?_⟩
    refine ⟨_, rfl, p, _, _, _, rfl, rfl, SqT.of hp, atI_nat (j := 1) rfl, _, rfl, i, S, _, rfl, hS, ?_⟩
    refine Res.step q fun _ H1 s1 q1 => ?_
    refine ⟨_, rfl, p, _, _, _, rfl, rfl, SqT.of (s1 _ _ hp), atI_nat (j := 2) rfl, _, rfl, e, S, x, _, rfl, hx.same s1, hS.same s1, ?_⟩
    exact q1.imp fun _ _ z => z
  | write e ws =>
    refine ⟨_, rfl, rfl, _, rfl, ifF (nstr write_set) ⟨_, rfl, rfl, _, rfl, ifT rfl ?_⟩⟩
    exact ⟨_, rfl, _, rfl, e, ws, S, _, _, rfl, hs, hS, q.imp fun _ _ z => z⟩
  | barrier =>
    refine ⟨_, rfl, rfl, _, rfl, ifF (nstr barrier_set) ⟨_, rfl, rfl, _, rfl, ifF (nstr barrier_write) ⟨_, rfl, rfl, _, rfl, ifT rfl ?_⟩⟩⟩
    refine ⟨_, rfl, ps, D.cScope, dx, _, _, rfl, h2, O.clScope, O.nwrites, scF_writes S t, S.writes, _, rfl, by decide +kernel, ?_⟩
    exact Res.imp (a := if S.writes = true then none else some ("write" : Str)) q fun _ _ z => z
  | ite e a b =>
    unfold SmAt at hs
    obtain ⟨p', x, la, xa, lb, xb, e1, hp, hx, _⟩ := hs
    cases e1
    refine ⟨_, rfl, rfl, _, rfl, ifF (nstr if_set) ⟨_, rfl, rfl, _, rfl, ifF (nstr if_write) ⟨_, rfl, rfl, _, rfl, ifF (nstr if_barrier) ⟨_, rfl, rfl, _, rfl, ifT rfl ?_⟩⟩⟩⟩
    exact ⟨_, rfl, p, _, _, _, rfl, rfl, SqT.of hp, atI_nat (j := 1) rfl, _, rfl, e, S, x, _, rfl, hx, hS, q.imp fun _ _ z => z⟩
  | loop i n b =>
    unfold SmAt at hs
    obtain ⟨p', l, xs, e1, hp, _⟩ := hs
    cases e1
    refine ⟨_, rfl, rfl, _, rfl, ifF (nstr loop_set) ⟨_, rfl, rfl, _, rfl, ifF (nstr loop_write) ⟨_, rfl, rfl, _, rfl, ifF (nstr loop_barrier) ⟨_, rfl, rfl, _, rfl, ifF (nstr if_loop) ?_⟩⟩⟩⟩
    refine ⟨_, rfl, p, _, _, _, rfl, rfl, SqT.of hp, atI_nat (j := 1) rfl, _, rfl, i, S, _, rfl, hS, ?_⟩
    refine Res.step q fun _ H1 s1 q1 => ?_
    refine ⟨_, rfl, p, _, _, _, rfl, rfl, SqT.of (s1 _ _ hp), atI_nat (j := 2) rfl, _, _, rfl, rfl, _, rfl, ite2 (fun c => ?_) (fun c => ?_)⟩
    · have c' : 1 ≤ n := of_decide_eq_true c
      refine ⟨_, _, rfl, rfl, _, _, rfl, by decide +kernel, ?_⟩
      by_cases z : n ≤ 8
      · rw [if_pos ⟨c', z⟩] at q1
        rw [decide_eq_true z, if_pos rfl]
        exact q1.imp fun _ _ z => z
      · rw [if_neg (fun y => z y.2)] at q1
        rw [decide_eq_false z, if_neg Bool.false_ne_true]
        exact q1
    · have c' : ¬ 1 ≤ n := fun y => c (decide_eq_true y)
      refine ⟨_, _, rfl, by decide +kernel, ?_⟩
      rw [if_neg (fun y => c' y.1)] at q1
      rw [if_neg Bool.false_ne_true]
      exact q1
end
end S2
namespace S2
open PySem L2
theorem fst_assoc (a b c : Option Str) : fst (fst a b) c = fst a (fst b c) := by cases a <;> rfl
structure Stv where
  sectors : Int
  width : Int
  keys : Int
  variables : Int
  put : List Sm
  sync : List Sm
  recover : List Sm
  gb : List Sm
  ge : Ex
def StoreV (H : Hp) (s : Stv) (v : V) : Prop := ∃ p a b c g x y, v = .ref p ∧ H p = some (.tup [.str "store", .int s.sectors, .int s.width, .int s.keys, .int s.variables, a, b, c, .ref g]) ∧
  BdV H s.put a ∧ BdV H s.sync b ∧ BdV H s.recover c ∧ H g = some (.tup [x, y]) ∧ BdV H s.gb x ∧ ExAt H s.ge y
theorem StoreV.same {H H' : Hp} {s : Stv} {v : V} (h : StoreV H s v) (k : Same H H') : StoreV H' s v := by
  obtain ⟨p, a, b, c, g, x, y, h1, h2, h3, h4, h5, h6, h7, h8⟩ := h
  exact ⟨p, a, b, c, g, x, y, h1, k _ _ h2, h3.same k, h4.same k, h5.same k, k _ _ h6, h7.same k, h8.same k⟩
def rng (lo hi i : Int) (r : Str) : Option Str := if lo ≤ i ∧ i ≤ hi then none else some r
def scPut (s : Stv) : Sc := ⟨s.width, s.variables, ["key", "value"], true⟩
def scNone (s : Stv) : Sc := ⟨s.width, s.variables, [], true⟩
def scGet (s : Stv) : Sc := ⟨s.width, s.variables, ["key"], false⟩
def chk (s : Stv) : Option Str :=
  fst (rng 1 6 s.sectors "sectors") (fst (rng 1 4 s.width "width") (fst (rng 1 3 s.keys "keys") (fst (rng 0 8 s.variables "variables")
    (fst (chkBody (scPut s) s.put) (fst (chkBody (scNone s) s.sync) (fst (chkBody (scNone s) s.recover) (fst (chkBody (scGet s) s.gb) (chkE (scGet s) s.ge))))))))
def few (s : Stv) : Prop := cnt s.put ≤ 1000 ∧ cnt s.sync ≤ 1000 ∧ cnt s.recover ≤ 1000 ∧ cnt s.gb ≤ 1000
def spScope (C : Addr) : Sp := fun vs H Q _ => ∃ (p dx t : Addr) (S : Sc), vs = [.ref p, .int S.width, .int S.variables, .ref t, .bl S.writes] ∧ H p = some (.ins C dx []) ∧ ∀ H', H' p = some (.ins C dx (scF S t)) → (∀ b o, H b = some o → b ≠ p → H' b = some o) → Q .non H'
def spGet (D : Defs) : Sp := fun vs H Q E => ∃ (b : List Sm) (e : Ex) (S : Sc) (p : Addr) (x y u : V), vs = [.ref p, u] ∧ H p = some (.tup [x, y]) ∧ BdV H b x ∧ ExAt H e y ∧ ScV D.cScope S H u ∧ cnt b ≤ 1000 ∧ Res D.cErr (fst (chkBody S b) (chkE S e)) H Q E
def spCheck (D : Defs) : Sp := fun vs H Q E => ∃ (s : Stv) (v : V), vs = [v] ∧ StoreV H s v ∧ few s ∧ Res D.cErr (chk s) H Q E
section
variable {P : Program} {w : World} {K : PySem.W.Frag} {mg : Str → Option Value} {base : Heap} {D : Defs}
theorem sc_check_statements : FnScope ["body", "scope", "statement", "inner"] ["body", "scope"] (defScope s_check_statements) := ⟨rfl, rfl, rfl, by decide +kernel, rfl, by decide +kernel, by decide +kernel⟩
theorem no_stmts : FnOk P w K mg base (L2.CX P w) 12 D.fcheck_statements D.dcheck_statements ["body", "scope"] (spStmts D 0) := by
  have no : ∀ vs H Q E, ¬ spStmts D 0 vs H Q E := fun vs H Q E h => by
    obtain ⟨b, S, v, u, _, _, _, h1, _⟩ := h
    have := hgt_pos b
    omega
  exact ⟨fun vs H Q E h => absurd h (no vs H Q E), fun A outer s H args us vs Q E _ _ _ _ h => absurd h (no vs H Q E)⟩
theorem more_stmts {n : Nat} (O : Ok P K mg D) (GS : FnOk P w K mg base (L2.CX P w) (n + 12) D.fcheck_statements D.dcheck_statements ["body", "scope"] (spStmts D n)) :
    FnOk P w K mg base (L2.CX P w) (n + 13) D.fcheck_statements D.dcheck_statements ["body", "scope"] (spStmts D (n + 1)) := by
  have G1 : FnOk P w K mg base (L2.CX P w) 12 D.fcheck_statement D.dcheck_statement ["statement", "scope"] (spStmt D) := ok_stmt O
  have GB : FnOk P w K mg base CX0 1 D.fbodies_in D.dbodies_in ["statement"] spBodies := ok_bodies O
  refine O.Fcheck_statements.okX sc_check_statements (fun vs H Q E h => ?_) (fun cdv A outer s H vs Q E hr h => ?_)
  · obtain ⟨b, S, v, u, rfl, _⟩ := h
    rfl
  obtain ⟨b, S, v, u, rfl, hb, hS, hh, q⟩ := h
  have hr12 : Room 12 _ := hr.mono (by omega)
  have hr1 : Room 1 _ := hr.mono (by omega)
  obtain ⟨pb, xs, rfl, hpb, hxs⟩ := hb
  refine ⟨_, pss_one (ps_for (passes_of rfl) rfl (pi_list (pv 0)) (pg_name (i := 2) sc_check_statements.nd rfl (Or.inl rfl))
    (pss_cons (ps_expr (pe_call G1 hr12 rfl O.mcheck_statement O.Fcheck_statement.kp O.bcheck_statement .nil (passes_call (takes_of rfl rfl rfl rfl) (fun _ _ _ _ h => h)) (pa_cons (pv 2) (pa_cons (pv 1) pa_nil))))
    (pss_one (ps_for (passes_of rfl) rfl (pi_list (pe_call GB hr1 rfl O.mbodies_in O.Fbodies_in.kp O.bbodies_in .nil pass0 (pa_cons (pv 2) pa_nil))) (pg_name (i := 3) sc_check_statements.nd rfl (Or.inl rfl))
      (pss_one (ps_expr (pe_call GS hr rfl O.mcheck_statements O.Fcheck_statements.kp O.bcheck_statements .nil (passes_call (takes_of rfl rfl rfl rfl) (fun _ _ _ _ h => h)) (pa_cons (pv 3) (pa_cons (pv 1) pa_nil))))))))), ?_⟩
  have hxl := hxs.len
  refine ⟨_, rfl, pb, rfl, ⟨_, SqL.of hpb⟩, for_list (K := K) (a := pb) (xs := xs) (fun i σ H1 => ∃ z2 z3 : Option V, σ = [some (.ref pb), some u, z2, z3] ∧ Same H H1 ∧ Res D.cErr (chkB S (b.drop i)) H1 Q E)
    ⟨none, none, rfl, Same.refl _, q⟩ (fun i σ H1 _ ⟨_, _, _, s1, _⟩ => SqL.of (s1 _ _ hpb)) ?_ ?_⟩
  · rintro i x σ H1 hi ⟨z2, z3, rfl, s1, q1⟩
    obtain ⟨st, hst, hx⟩ := hxs.get hi
    have hlt := List.getElem?_eq_some_iff.mp hst
    have hdrop : b.drop i = st :: b.drop (i + 1) := by rw [List.drop_eq_getElem_cons hlt.1, hlt.2]
    rw [hdrop, chkB_cons, chkSt_eq, fst_assoc] at q1
    refine ⟨_, rfl, _, rfl, st, S, x, u, rfl, hx.same s1, hS.same s1, ?_⟩
    refine q1.step fun _ H2 s2 q2 => ?_
    have s12 := s1.trans s2
    refine ⟨_, rfl, st, x, H, rfl, s12, hx, fun l ys H3 s3 nl hl hy => ?_⟩
    have hyl := Each.len hy
    have s123 := s12.trans s3
    refine ⟨l, rfl, ⟨_, SqL.of hl⟩, for_list (K := K) (a := l) (xs := ys) (fun j σ H4 => ∃ z3 : Option V, σ = [some (.ref pb), some u, some x, z3] ∧ Same H3 H4 ∧ Res D.cErr (fst (chkBs S ((inner st).drop j)) (chkB S (b.drop (i + 1)))) H4 Q E)
      ⟨z3, rfl, Same.refl _, q2.same s3⟩ (fun j σ H4 _ ⟨_, _, s4, _⟩ => SqL.of (s4 _ _ hl)) ?_ ?_⟩
    · rintro j y σ H4 hj ⟨z3, rfl, s4, q4⟩
      obtain ⟨b', hb', hby⟩ := Each.get hy hj
      have hlt' := List.getElem?_eq_some_iff.mp hb'
      have hdrop' : (inner st).drop j = b' :: (inner st).drop (j + 1) := by rw [List.drop_eq_getElem_cons hlt'.1, hlt'.2]
      rw [hdrop', chkBs, fst_assoc] at q4
      have h1 := hgtS_inner st b' (List.mem_of_getElem? hb')
      have h2 := hgt_mem b st (List.mem_of_getElem? hst)
      have s1234 := s123.trans s4
      refine ⟨_, rfl, _, rfl, b', S, y, u, rfl, hby.same s1234, hS.same s1234, by omega, ?_⟩
      exact q4.step fun _ H5 s5 q5 => ⟨_, rfl, s4.trans s5, q5⟩
    · rintro σ H4 ⟨z3, rfl, s4, q4⟩
      rw [hyl, List.drop_length] at q4
      exact ⟨_, _, rfl, s123.trans s4, q4⟩
  · rintro σ H1 ⟨z2, z3, rfl, s1, q1⟩
    rw [hxl, List.drop_length, chkB_nil] at q1
    exact q1 H1 (Same.refl _)
theorem ok_stmts (O : Ok P K mg D) : ∀ n, FnOk P w K mg base (L2.CX P w) (n + 12) D.fcheck_statements D.dcheck_statements ["body", "scope"] (spStmts D n)
  | 0 => no_stmts
  | n + 1 => more_stmts O (ok_stmts O n)
theorem sc_check_body : FnScope ["body", "scope"] ["body", "scope"] (defScope s_check_body) := ⟨rfl, rfl, rfl, by decide +kernel, rfl, by decide +kernel, by decide +kernel⟩
theorem ok_body (O : Ok P K mg D) : FnOk P w K mg base (L2.CX P w) 17 D.fcheck_body D.dcheck_body ["body", "scope"] (spBody D) := by
  have GR : FnOk P w K mg base (L2.CX P w) 3 D.frequire D.drequire ["kept", "rule"] (spRequire D.cErr) := ok_require O
  have GF : FnOk P w K mg base CX0 3 D.ffits D.dfits ["body"] spFits := ok_fits O
  have GS : FnOk P w K mg base (L2.CX P w) 16 D.fcheck_statements D.dcheck_statements ["body", "scope"] (spStmts D 4) := ok_stmts O 4
  refine O.Fcheck_body.okX sc_check_body (fun vs H Q E h => ?_) (fun cdv A outer s H vs Q E hr h => ?_)
  · obtain ⟨b, S, v, u, rfl, _⟩ := h
    rfl
  obtain ⟨b, S, v, u, rfl, hb, hS, hc, q⟩ := h
  have hr3 : Room 3 _ := hr.mono (by decide)
  refine ⟨_, pss_cons (ps_expr (pe_call GR hr3 rfl O.mrequire O.Frequire.kp O.brequire .nil (passes_call (takes_of rfl rfl rfl rfl) (fun _ _ _ _ h => h)) (pa_cons (pe_call GF hr3 rfl O.mfits O.Ffits.kp O.bfits .nil pass0 (pa_cons (pv 0) pa_nil)) (pa_cons pe_str pa_nil))))
    (pss_one (ps_expr (pe_call GS hr rfl O.mcheck_statements O.Fcheck_statements.kp O.bcheck_statements .nil (passes_call (takes_of rfl rfl rfl rfl) (fun _ _ _ _ h => h)) (pa_cons (pv 0) (pa_cons (pv 1) pa_nil))))), ?_⟩
  refine ⟨_, rfl, b, v, rfl, hb, hc, fun H1 s1 => ⟨fits b, _, rfl, by decide +kernel, ?_⟩⟩
  have q1 : Res D.cErr (fst (if fits b = true then none else some ("size" : Str)) (chkB S b)) H1 Q E := Res.same q s1
  refine q1.step fun hn H2 s2 q2 => ?_
  have hf : fits b = true := by
    by_cases c : fits b = true
    · exact c
    · rw [if_neg c] at hn
      cases hn
  have s12 := s1.trans s2
  exact ⟨_, rfl, _, rfl, b, S, v, u, rfl, hb.same s12, hS.same s12, fits_hgt hf, q2.imp fun _ _ z => z⟩
theorem sc_check_get : FnScope ["get", "scope", "body", "e"] ["get", "scope"] (defScope s_check_get) := ⟨rfl, rfl, rfl, by decide +kernel, rfl, by decide +kernel, by decide +kernel⟩
theorem ok_get (O : Ok P K mg D) : FnOk P w K mg base (L2.CX P w) 18 D.fcheck_get D.dcheck_get ["get", "scope"] (spGet D) := by
  have GB : FnOk P w K mg base (L2.CX P w) 17 D.fcheck_body D.dcheck_body ["body", "scope"] (spBody D) := ok_body O
  have GE : FnOk P w K mg base (L2.CX P w) 10 D.fcheck_expression D.dcheck_expression ["e", "scope"] (spCheckE D) := ok_checkE O
  refine O.Fcheck_get.okX sc_check_get (fun vs H Q E h => ?_) (fun cdv A outer s H vs Q E hr h => ?_)
  · obtain ⟨b, e, S, p, x, y, u, rfl, _⟩ := h
    rfl
  obtain ⟨b, e, S, p, x, y, u, rfl, hp, hb, he, hS, hc, q⟩ := h
  have hr10 : Room 10 _ := hr.mono (by decide)
  refine ⟨_, pss_cons (ps_asg (pv 0) (pg_tup rfl (pgs_cons (pg_name (i := 2) sc_check_get.nd rfl (Or.inl rfl)) (pgs_cons (pg_name (i := 3) sc_check_get.nd rfl (Or.inl rfl)) pgs_nil))))
    (pss_cons (ps_expr (pe_call GB hr rfl O.mcheck_body O.Fcheck_body.kp O.bcheck_body .nil (passes_call (takes_of rfl rfl rfl rfl) (fun _ _ _ _ h => h)) (pa_cons (pv 2) (pa_cons (pv 1) pa_nil))))
    (pss_one (ps_expr (pe_call GE hr10 rfl O.mcheck_expression O.Fcheck_expression.kp O.bcheck_expression .nil (passes_call (takes_of rfl rfl rfl rfl) (fun _ _ _ _ h => h)) (pa_cons (pv 3) (pa_cons (pv 1) pa_nil)))))), ?_⟩
  refine ⟨_, rfl, p, _, rfl, SqT.of hp, rfl, _, _, rfl, _, _, rfl, rfl, ?_⟩
  refine ⟨_, rfl, _, rfl, b, S, x, u, rfl, hb, hS, hc, ?_⟩
  refine q.step fun _ H1 s1 q1 => ?_
  exact ⟨_, rfl, _, rfl, e, S, y, u, rfl, he.same s1, hS.same s1, q1.imp fun _ _ z => z⟩
theorem sc_Scope : FnScope ["self", "width", "variables", "arguments", "writes"] ["self", "width", "variables", "arguments", "writes"] (defScope s_Scope__init__) := ⟨rfl, rfl, rfl, by decide +kernel, rfl, by decide +kernel, by decide +kernel⟩
theorem putF_len (f : Str) (v : V) (fs : List (Str × V)) : (putF f v fs).length ≤ fs.length + 1 := by
  induction fs with
  | nil => exact Nat.le_refl _
  | cons p r ih =>
    obtain ⟨g, x⟩ := p
    show (if g = f then _ else _ : List (Str × V)).length ≤ _
    split
    · simp
    · rw [List.length_cons, List.length_cons]
      omega
theorem ok_scope (O : Ok P K mg D) : FnOk P w K mg base CX0 1 D.fScope D.dScope ["self", "width", "variables", "arguments", "writes"] (spScope D.cScope) := by
  refine O.FScope.ok sc_Scope (fun vs H Q E h => ?_) (fun cdv A outer s H vs Q E hr h => ?_)
  · obtain ⟨p, dx, t, S, rfl, _⟩ := h
    rfl
  obtain ⟨p, dx, t, S, rfl, hp, k⟩ := h
  refine ⟨_, pss_cons (ps_fld (pv 0) (pv 1) rfl) (pss_cons (ps_fld (pv 0) (pv 2) rfl) (pss_cons (ps_fld (pv 0) (pv 3) rfl) (pss_one (ps_fld (pv 0) (pv 4) rfl)))), ?_⟩
  have l1 := putF_len "width" (.int S.width) []
  have l2 := putF_len "variables" (.int S.variables) (putF "width" (.int S.width) [])
  have l3 := putF_len "arguments" (.ref t) (putF "variables" (.int S.variables) (putF "width" (.int S.width) []))
  rw [List.length_nil] at l1
  refine ⟨_, rfl, _, rfl, p, D.cScope, dx, _, rfl, hp, O.clScope, O.nwidth, (by show 0 < 1000; decide), ?_⟩
  refine ⟨_, rfl, _, rfl, p, D.cScope, dx, _, rfl, upd_same, O.clScope, O.nvariables, (by omega), ?_⟩
  refine ⟨_, rfl, _, rfl, p, D.cScope, dx, _, rfl, upd_same, O.clScope, O.narguments, (by omega), ?_⟩
  refine ⟨_, rfl, _, rfl, p, D.cScope, dx, _, rfl, upd_same, O.clScope, O.nwrites, (by omega), ?_⟩
  exact k _ upd_same fun b o e hb => by rw [upd_ne hb, upd_ne hb, upd_ne hb, upd_ne hb]; exact e
/-- a Scope made -/
theorem made_scope {C : Addr} {S : Sc} {t x dx : Addr} {H : Hp} {R : Hp → Prop} {E : XK} (nx : H x = none) (nd : H dx = none) (ht : H t = some (.tup (S.args.map V.str))) (hl : S.args.length ≤ 10) (k : ∀ H' : Hp, Same H H' → ScV C S H' (.ref x) → R H') :
    spScope C [.ref x, .int S.width, .int S.variables, .ref t, .bl S.writes] (upd (upd H dx (.own x)) x (.ins C dx [])) (fun v H2 => v = .non ∧ R H2) E := by
  refine ⟨x, dx, t, S, rfl, upd_same, fun H' hx kp => ⟨rfl, ?_⟩⟩
  have s : Same H H' := Same.made nx nd kp
  exact k H' s ⟨x, dx, t, rfl, hx, s _ _ ht, hl⟩
end
end S2
namespace S2
open PySem L2
section
variable {P : Program} {w : World} {K : PySem.W.Frag} {mg : Str → Option Value} {base : Heap} {D : Defs}
theorem rng_is {lo hi i : Int} {r : Str} : (if decide (lo ≤ i) = true then (if decide (i ≤ hi) = true then (none : Option Str) else some r) else some r) = rng lo hi i r := by
  unfold rng
  by_cases c : lo ≤ i
  · rw [if_pos (decide_eq_true c)]
    by_cases d : i ≤ hi
    · rw [if_pos (decide_eq_true d), if_pos ⟨c, d⟩]
    · rw [if_neg (fun z => d (of_decide_eq_true z)), if_neg (fun z => d z.2)]
  · rw [if_neg (fun z => c (of_decide_eq_true z)), if_neg (fun z => c z.1)]
theorem sc_check : FnScope ["store", "sectors", "width", "keys", "variables", "put", "sync", "recover", "get", "without_arguments"] ["store"] (defScope s_check) := ⟨rfl, rfl, rfl, by decide +kernel, rfl, by decide +kernel, by decide +kernel⟩
/-- a number's rule: the reading of its require -/
theorem num_go {C : Addr} {lo hi i : Int} {r : Str} {b : Option Str} {H : Hp} {Q : VK} {Q' : VK} {E : XK} (hl : r.length ≤ 1000) (h : Res C (fst (rng lo hi i r) b) H Q E) (k : ∀ H', Same H H' → Res C b H' Q E → Q' .non H') :
    if decide (lo ≤ i) = true then (∃ i' j' : Int, V.int i = .int i' ∧ V.int hi = .int j' ∧ spRequire C ([.bl (decide (i' ≤ j')), .str r] ++ []) H Q' E) else spRequire C ([.bl false, .str r] ++ []) H Q' E := by
  have e := rng_is (lo := lo) (hi := hi) (i := i) (r := r)
  by_cases c : lo ≤ i
  · rw [if_pos (decide_eq_true c)] at e ⊢
    refine ⟨_, _, rfl, rfl, _, _, rfl, hl, ?_⟩
    rw [e]
    exact h.step fun _ => k
  · rw [if_neg (fun z => c (of_decide_eq_true z))] at e ⊢
    refine ⟨_, _, rfl, hl, ?_⟩
    rw [if_neg Bool.false_ne_true, e]
    exact h.step fun _ => k
theorem ok_check (O : Ok P K mg D) : FnOk P w K mg base (L2.CX P w) 19 D.fcheck D.dcheck ["store"] (spCheck D) := by
  have GR : FnOk P w K mg base (L2.CX P w) 3 D.frequire D.drequire ["kept", "rule"] (spRequire D.cErr) := ok_require O
  have GB : FnOk P w K mg base (L2.CX P w) 17 D.fcheck_body D.dcheck_body ["body", "scope"] (spBody D) := ok_body O
  have GG : FnOk P w K mg base (L2.CX P w) 18 D.fcheck_get D.dcheck_get ["get", "scope"] (spGet D) := ok_get O
  have GS : FnOk P w K mg base CX0 1 D.fScope D.dScope ["self", "width", "variables", "arguments", "writes"] (spScope D.cScope) := ok_scope O
  refine O.Fcheck.okX sc_check (fun vs H Q E h => ?_) (fun cdv A outer s H vs Q E hr h => ?_)
  · obtain ⟨st, v, rfl, _⟩ := h
    rfl
  obtain ⟨st, v, rfl, hs, ⟨c1, c2, c3, c4⟩, q⟩ := h
  obtain ⟨p, a, b, c, g, x, y, rfl, hp, ha, hb, hc, hg, hx, hy⟩ := hs
  have hr3 : Room 3 _ := hr.mono (by decide)
  have hr2 : Room 2 _ := hr.mono (by decide)
  have hr17 : Room 17 _ := hr.mono (by decide)
  obtain ⟨u1, k1⟩ := O.kMOST_SECTORS
  obtain ⟨u2, k2⟩ := O.kMOST_WIDTH
  obtain ⟨u3, k3⟩ := O.kMOST_KEYS
  obtain ⟨u4, k4⟩ := O.kMOST_VARIABLES
  refine ⟨_, pss_cons (ps_asg (pe_slice sl_tup (pv 0) (po_some pe_int) po_none) (pg_tup rfl (pgs_cons (pg_name (i := 1) sc_check.nd rfl (Or.inl rfl)) (pgs_cons (pg_name (i := 2) sc_check.nd rfl (Or.inl rfl)) (pgs_cons (pg_name (i := 3) sc_check.nd rfl (Or.inl rfl)) (pgs_cons (pg_name (i := 4) sc_check.nd rfl (Or.inl rfl))
      (pgs_cons (pg_name (i := 5) sc_check.nd rfl (Or.inl rfl)) (pgs_cons (pg_name (i := 6) sc_check.nd rfl (Or.inl rfl)) (pgs_cons (pg_name (i := 7) sc_check.nd rfl (Or.inl rfl)) (pgs_cons (pg_name (i := 8) sc_check.nd rfl (Or.inl rfl)) pgs_nil))))))))))
    (pss_cons (ps_expr (pe_call GR hr3 rfl O.mrequire O.Frequire.kp O.brequire .nil (passes_call (takes_of rfl rfl rfl rfl) (fun _ _ _ _ h => h)) (pa_cons (pe_chain op_le op_le pe_int (pv 1) (pe_glob (v := .int 6) (by rfl) k1 ⟨_, rfl⟩)) (pa_cons pe_str pa_nil))))
    (pss_cons (ps_expr (pe_call GR hr3 rfl O.mrequire O.Frequire.kp O.brequire .nil (passes_call (takes_of rfl rfl rfl rfl) (fun _ _ _ _ h => h)) (pa_cons (pe_chain op_le op_le pe_int (pv 2) (pe_glob (v := .int 4) (by rfl) k2 ⟨_, rfl⟩)) (pa_cons pe_str pa_nil))))
    (pss_cons (ps_expr (pe_call GR hr3 rfl O.mrequire O.Frequire.kp O.brequire .nil (passes_call (takes_of rfl rfl rfl rfl) (fun _ _ _ _ h => h)) (pa_cons (pe_chain op_le op_le pe_int (pv 3) (pe_glob (v := .int 3) (by rfl) k3 ⟨_, rfl⟩)) (pa_cons pe_str pa_nil))))
    (pss_cons (ps_expr (pe_call GR hr3 rfl O.mrequire O.Frequire.kp O.brequire .nil (passes_call (takes_of rfl rfl rfl rfl) (fun _ _ _ _ h => h)) (pa_cons (pe_chain op_le op_le pe_int (pv 4) (pe_glob (v := .int 8) (by rfl) k4 ⟨_, rfl⟩)) (pa_cons pe_str pa_nil))))
    (pss_cons (ps_set (i := 9) sc_check.nd rfl (Or.inl rfl) (pe_make O.mkScope GS hr2 rfl O.mScope O.bScope .nil pass0 (pa_cons (pv 2) (pa_cons (pv 4) (pa_cons (pe_tup pa_nil) (pa_cons pe_bl pa_nil))))))
    (pss_cons (ps_expr (pe_call GB hr17 rfl O.mcheck_body O.Fcheck_body.kp O.bcheck_body .nil (passes_call (takes_of rfl rfl rfl rfl) (fun _ _ _ _ h => h)) (pa_cons (pv 5) (pa_cons
        (pe_make O.mkScope GS hr2 rfl O.mScope O.bScope .nil pass0 (pa_cons (pv 2) (pa_cons (pv 4) (pa_cons (pe_tup (pa_cons pe_str (pa_cons pe_str pa_nil))) (pa_cons pe_bl pa_nil))))) pa_nil))))
    (pss_cons (ps_expr (pe_call GB hr17 rfl O.mcheck_body O.Fcheck_body.kp O.bcheck_body .nil (passes_call (takes_of rfl rfl rfl rfl) (fun _ _ _ _ h => h)) (pa_cons (pv 6) (pa_cons (pv 9) pa_nil))))
    (pss_cons (ps_expr (pe_call GB hr17 rfl O.mcheck_body O.Fcheck_body.kp O.bcheck_body .nil (passes_call (takes_of rfl rfl rfl rfl) (fun _ _ _ _ h => h)) (pa_cons (pv 7) (pa_cons (pv 9) pa_nil))))
    (pss_one (ps_expr (pe_call GG hr rfl O.mcheck_get O.Fcheck_get.kp O.bcheck_get .nil (passes_call (takes_of rfl rfl rfl rfl) (fun _ _ _ _ h => h)) (pa_cons (pv 8) (pa_cons
        (pe_make O.mkScope GS hr2 rfl O.mScope O.bScope .nil pass0 (pa_cons (pv 2) (pa_cons (pv 4) (pa_cons (pe_tup (pa_cons pe_str pa_nil)) (pa_cons pe_bl pa_nil))))) pa_nil))))))))))))), ?_⟩
  refine ⟨_, rfl, 1, rfl, p, _, rfl, SqT.of hp, ?_, fun t nt => ⟨t, _, rfl, SqT.of upd_same, ?_, ?_⟩⟩
  · intro z
    have z1 := z.1
    have := HT.sIx_nat 9 0 1
    have e : ((1 : Nat) : Int) = 1 := rfl
    rw [e] at this
    have z2 : HT.sIx 9 0 (some 1) = 0 := z1
    rw [this] at z2
    exact absurd z2 (by decide)
  · rw [cut_tail]; rfl
  rw [cut_tail]
  have s1 : Same H (upd H t (.tup [.int st.sectors, .int st.width, .int st.keys, .int st.variables, a, b, c, .ref g])) := new_same nt _
  refine ⟨_, _, rfl, _, _, rfl, _, _, rfl, _, _, rfl, _, _, rfl, _, _, rfl, _, _, rfl, _, _, rfl, rfl, ?_⟩
  have q1 := q.same s1
  -- the four numbers
  refine ⟨_, rfl, _, _, rfl, rfl, _, rfl, num_go (by decide +kernel) q1 fun H2 s2 q2 => ?_⟩
  refine ⟨_, rfl, _, _, rfl, rfl, _, rfl, num_go (by decide +kernel) q2 fun H3 s3 q3 => ?_⟩
  refine ⟨_, rfl, _, _, rfl, rfl, _, rfl, num_go (by decide +kernel) q3 fun H4 s4 q4 => ?_⟩
  refine ⟨_, rfl, _, _, rfl, rfl, _, rfl, num_go (by decide +kernel) q4 fun H5 s5 q5 => ?_⟩
  have s15 : Same H H5 := s1.trans (s2.trans (s3.trans (s4.trans s5)))
  -- the scopes and the bodies
  refine ⟨_, rfl, _, rfl, (by show 0 ≤ sizeLine; decide), fun t0 n0 => ?_⟩
  have s6 := s15.trans (new_same n0 (.tup []))
  have q6 := q5.same (new_same n0 (.tup []))
  intro x0 dx0 nx0 mx0 ex0
  refine made_scope (S := scNone st) (t := t0) nx0 mx0 upd_same (by simp [scNone]) fun H7 s7 h0 => ?_
  have s17 := s6.trans s7
  have q7 := q6.same s7
  refine ⟨_, rfl, _, rfl, _, rfl, (by show 2 ≤ sizeLine; decide), fun t8 n8 => ?_⟩
  have s8 := s17.trans (new_same n8 (.tup [.str "key", .str "value"]))
  have q8 := q7.same (new_same n8 (.tup [.str "key", .str "value"]))
  have h08 := h0.same (new_same n8 (.tup [.str "key", .str "value"]))
  intro x8 dx8 nx8 mx8 ex8
  refine made_scope (S := scPut st) (t := t8) nx8 mx8 upd_same (by simp [scPut]) fun H9 s9 h9 => ?_
  have s19 := s8.trans s9
  have h09 := h08.same s9
  refine ⟨st.put, scPut st, a, _, rfl, ha.same s19, h9, c1, ?_⟩
  refine (q8.same s9).step fun _ H10 s10 q10 => ?_
  have s20 := s19.trans s10
  refine ⟨_, rfl, _, rfl, st.sync, scNone st, b, _, rfl, hb.same s20, h09.same s10, c2, ?_⟩
  refine q10.step fun _ H11 s11 q11 => ?_
  have s21 := s20.trans s11
  refine ⟨_, rfl, _, rfl, st.recover, scNone st, c, _, rfl, hc.same s21, (h09.same s10).same s11, c3, ?_⟩
  refine q11.step fun _ H12 s12 q12 => ?_
  have s22 := s21.trans s12
  refine ⟨_, rfl, _, rfl, _, rfl, (by show 1 ≤ sizeLine; decide), fun t13 n13 => ?_⟩
  have s23 := s22.trans (new_same n13 (.tup [.str "key"]))
  intro x13 dx13 nx13 mx13 ex13
  refine made_scope (S := scGet st) (t := t13) nx13 mx13 upd_same (by simp [scGet]) fun H14 s14 h14 => ?_
  have s24 := s23.trans s14
  refine ⟨st.gb, st.ge, scGet st, g, x, y, _, rfl, s24 _ _ hg, hx.same s24, hy.same s24, h14, c4, ?_⟩
  exact ((q12.same (new_same n13 (.tup [.str "key"]))).same s14).imp fun _ _ z => z
end
end S2
namespace S2
open PySem L2
/-! ### the draws -/
def But (H H' : Hp) (st c : Addr) : Prop := ∀ b o, H b = some o → b ≠ st → b ≠ c → H' b = some o
theorem But.refl (H : Hp) (st c : Addr) : But H H st c := fun _ _ e _ _ => e
structure StAt (H : Hp) (st c : Addr) : Prop where
  top : ∃ m : Int, H st = some (.lst [.ref c, .int m])
  cells : ∃ ns : List Int, ns.length ≤ 63 ∧ H c = some (.lst (ns.map V.int))
theorem StAt.ne {H : Hp} {st c : Addr} (S : StAt H st c) : st ≠ c := by
  obtain ⟨⟨m, h1⟩, ⟨ns, _, h2⟩⟩ := S
  refine ne_of h1 h2 fun e => ?_
  injection e with e
  cases ns with
  | nil => cases e
  | cons a r => cases e
/-- the heap without the state's two lists -/
def Off (H : Hp) (st c : Addr) : Hp := fun b => if b = st ∨ b = c then none else H b
theorem off_get {H : Hp} {st c b : Addr} {o : HO} (h : Off H st c b = some o) : H b = some o ∧ b ≠ st ∧ b ≠ c := by
  unfold Off at h
  split at h
  · cases h
  · rename_i z
    exact ⟨h, fun e => z (.inl e), fun e => z (.inr e)⟩
theorem off_of {H : Hp} {st c b : Addr} {o : HO} (h : H b = some o) (h1 : b ≠ st) (h2 : b ≠ c) : Off H st c b = some o := by
  unfold Off
  rw [if_neg (fun z => z.elim h1 h2)]
  exact h
theorem off_same (H : Hp) (st c : Addr) : Same (Off H st c) H := fun b o e => (off_get e).1
theorem off_none {H : Hp} {st c b : Addr} (h : H b = none) : Off H st c b = none := by
  unfold Off
  split
  · rfl
  · exact h
theorem off_upd {H : Hp} {st c d : Addr} {o : HO} (h1 : d ≠ st) (h2 : d ≠ c) : Off (upd H d o) st c = upd (Off H st c) d o := by
  funext b
  unfold Off
  by_cases z : b = st ∨ b = c
  · rw [if_pos z]
    have : b ≠ d := fun e => z.elim (fun y => h1 (e.symm.trans y)) (fun y => h2 (e.symm.trans y))
    rw [upd_ne this, if_pos z]
  · rw [if_neg z]
    by_cases y : b = d
    · rw [y, upd_same, upd_same]
    · rw [upd_ne y, upd_ne y, if_neg z]
theorem StAt.free {H : Hp} {st c p : Addr} (S : StAt H st c) (h : H p = none) : p ≠ st ∧ p ≠ c := by
  obtain ⟨⟨m, h1⟩, ⟨ns, _, h2⟩⟩ := S
  exact ⟨fun e => (by rw [e, h1] at h; cases h), fun e => (by rw [e, h2] at h; cases h)⟩
theorem stAt_upd {H : Hp} {st c d : Addr} {o : HO} (S : StAt H st c) (h1 : d ≠ st) (h2 : d ≠ c) : StAt (upd H d o) st c := by
  obtain ⟨⟨m, e1⟩, ⟨ns, l, e2⟩⟩ := S
  exact ⟨⟨m, by rw [upd_ne h1.symm]; exact e1⟩, ⟨ns, l, by rw [upd_ne h2.symm]; exact e2⟩⟩
/-- what was there beside the state stands; the state stands -/
structure Go (st c : Addr) (H H' : Hp) : Prop where
  same : Same (Off H st c) (Off H' st c)
  st : StAt H' st c
theorem Go.refl {st c : Addr} {H : Hp} (S : StAt H st c) : Go st c H H := ⟨Same.refl _, S⟩
theorem Go.trans {st c : Addr} {H H1 H2 : Hp} (a : Go st c H H1) (b : Go st c H1 H2) : Go st c H H2 := ⟨a.same.trans b.same, b.st⟩
theorem Go.new {st c p : Addr} {H : Hp} (S : StAt H st c) (np : H p = none) (o : HO) : Go st c H (upd H p o) ∧ Off (upd H p o) st c p = some o := by
  obtain ⟨h1, h2⟩ := S.free np
  have e := off_upd (H := H) (o := o) h1 h2
  refine ⟨⟨?_, stAt_upd S h1 h2⟩, by rw [e]; exact upd_same⟩
  rw [e]
  exact new_same (off_none np) o
theorem Go.of_same {st c : Addr} {H H' : Hp} (S : StAt H st c) (s : Same H H') : Go st c H H' := by
  refine ⟨fun b o e => ?_, ?_⟩
  · obtain ⟨e1, h1, h2⟩ := off_get e
    exact off_of (s _ _ e1) h1 h2
  · obtain ⟨⟨m, e1⟩, ⟨ns, l, e2⟩⟩ := S
    exact ⟨⟨m, s _ _ e1⟩, ⟨ns, l, s _ _ e2⟩⟩
def spState (K : PySem.W.Frag) : Sp := fun vs H Q _ => ∃ (a : Addr) (ns : List Int), vs = [.ref a] ∧ SqL K H a (ns.map V.int) ∧ ns.length ≤ 63 ∧ ∀ (st c : Addr) (H' : Hp), Same H H' → H st = none → H c = none → StAt H' st c → Q (.ref st) H'
def spDraw : Sp := fun vs H Q _ => ∃ (st c : Addr) (many : Int), vs = [.ref st, .int many] ∧ StAt H st c ∧ 0 < many ∧ many < 1000000 ∧
  ∀ (r : Int) (H' : Hp), 0 ≤ r → r < many → Go st c H H' → Q (.int r) H'
section
variable {P : Program} {w : World} {K : PySem.W.Frag} {mg : Str → Option Value} {base : Heap} {D : Defs}
theorem sc_state : FnScope ["script", "seed", "cell"] ["script"] (defScope s__law_state) := ⟨rfl, rfl, rfl, by decide +kernel, rfl, by decide +kernel, by decide +kernel⟩
theorem ok_state (O : Ok P K mg D) : FnOk P w K mg base CX0 1 D.f_law_state D.d_law_state ["script"] (spState K) := by
  refine O.F_law_state.ok sc_state (fun vs H Q E h => ?_) (fun cdv A outer s H vs Q E hr h => ?_)
  · obtain ⟨a, ns, rfl, _⟩ := h
    rfl
  obtain ⟨a, ns, rfl, hS, hlen, q⟩ := h
  refine ⟨_, pss_cons (ps_set (i := 1) sc_state.nd rfl (Or.inl rfl) pe_int)
    (pss_cons (ps_for PassesOwn.never rfl (pi_list (pv 0)) (pg_name (i := 2) sc_state.nd rfl (Or.inl rfl))
      (pss_one (ps_set (i := 1) sc_state.nd rfl (Or.inl rfl) (pe_op op_mod (pe_callTy call_int1 (by rfl) O.zint PyProof.Rows.boot_int (pa_cons (pe_op op_add (pe_op op_mul (pv 1) pe_int) (pv 2)) pa_nil)) pe_int))))
    (pss_one (ps_ret (pe_lst (pa_cons
      (pe_lc (own := [("cell", 2)]) (g := gName 2) (by rfl) sc_state.nd (pi_list (pv 0)) (blkOk_by (own := [("cell", 2)]) (N := ["script", "seed", "cell"]) (sc := defScope s__law_state) (by decide +kernel))
        (fun _ _ _ _ _ => pg_name (i := 2) sc_state.nd rfl (Or.inl rfl)) (fun _ _ _ _ _ => pts_nil) (fun _ _ _ _ _ => pe_callB call_abs (by rfl) O.zabs PyProof.Rows.boot_abs (pa_cons (pv 2) pa_nil)))
      (pa_cons (pe_op op_add (pv 1) pe_int) pa_nil)))))), ?_⟩
  refine ⟨_, rfl, a, rfl, ⟨_, hS⟩, for_list (K := K) (a := a) (xs := ns.map V.int) (fun i σ H2 => ∃ (z : Int) (v : Option V), σ = [some (.ref a), some (.int z), v] ∧ H2 = H ∧ 0 ≤ z ∧ z < 1000003)
      ⟨7, none, rfl, rfl, by decide, by decide⟩ (fun i σ H2 _ ⟨_, _, _, e, _⟩ => by rw [e]; exact hS) ?_ ?_⟩
  · rintro i y σ H2 hi ⟨z, v, rfl, rfl, hz, hz'⟩
    obtain ⟨n, rfl⟩ : ∃ n, y = V.int n := by
      obtain ⟨n, _, e⟩ := List.mem_map.mp (List.mem_of_getElem? hi)
      exact ⟨n, e.symm⟩
    refine ⟨_, rfl, _, _, rfl, rfl, .inl ⟨by omega, by omega⟩, _, rfl, _, _, rfl, rfl, .inl ⟨_, rfl, _, _, rfl, rfl, (by show (0 : Int) < 1000003; decide), ?_⟩⟩
    exact ⟨_, _, rfl, rfl, Int.emod_nonneg _ (by decide), Int.emod_lt_of_pos _ (by decide)⟩
  · rintro σ H2 ⟨z, v, rfl, rfl, hz, hz'⟩
    refine ⟨_, rfl, a, rfl, ⟨_, hS⟩, fun c nc => lc_list (K := K) (a := a) (xs := ns.map V.int) (fun i H3 => ∃ ms : List Int, ms.length = i ∧ H3 = upd H2 c (.lst (ms.map V.int)))
      ⟨[], rfl, rfl⟩ (fun i H3 _ ⟨ms, _, e⟩ => by rw [e]; exact (new_same nc _).seq hS) ?_ ?_⟩
    · rintro i y H3 hi ⟨ms, hm, rfl⟩
      obtain ⟨n, rfl⟩ : ∃ n, y = V.int n := by
        obtain ⟨n, _, e⟩ := List.mem_map.mp (List.mem_of_getElem? hi)
        exact ⟨n, e.symm⟩
      have hil : i < ns.length := by
        have := (List.getElem?_eq_some_iff.mp hi).1
        rwa [List.length_map] at this
      refine ⟨rfl, yes (iteT ?_)⟩
      refine ⟨_, rfl, _, rfl, ms.map V.int, upd_same, (by rw [List.length_map]; exact small1000 (by omega)), ms ++ [if n < 0 then -n else n], by rw [List.length_append, hm]; rfl, ?_⟩
      rw [upd_upd, List.map_append]
      rfl
    · rintro H3 ⟨ms, hm, rfl⟩
      refine ⟨_, rfl, _, _, rfl, rfl, (by show 2 ≤ sizeLine; decide), fun st nst => ?_⟩
      have hcs : st ≠ c := fun e => by rw [e, upd_same] at nst; cases nst
      refine q st c _ ((new_same nc _).trans (new_same nst _)) ((new_same nc _).free nst) nc ⟨⟨z + 1, upd_same⟩, ⟨ms, ?_, ?_⟩⟩
      · rw [hm, List.length_map]; exact hlen
      · rw [upd_ne hcs.symm]; exact upd_same
theorem But.go {st c : Addr} {H H' : Hp} (b : But H H' st c) (S : StAt H' st c) : Go st c H H' := ⟨fun x o e => by
  obtain ⟨e1, h1, h2⟩ := off_get e
  exact off_of (b _ _ e1 h1 h2) h1 h2, S⟩
theorem sc_draw : FnScope ["state", "many", "cells", "value", "mixed"] ["state", "many"] (defScope s__law_draw) := ⟨rfl, rfl, rfl, by decide +kernel, rfl, by decide +kernel, by decide +kernel⟩
theorem ok_draw (O : Ok P K mg D) : FnOk P w K mg base CX0 1 D.f_law_draw D.d_law_draw ["state", "many"] spDraw := by
  refine O.F_law_draw.ok sc_draw (fun vs H Q E h => ?_) (fun cdv A outer s H vs Q E hr h => ?_)
  · obtain ⟨st, c, many, rfl, _⟩ := h
    rfl
  obtain ⟨st, c, many, rfl, S, hm0, hm1, q⟩ := h
  have hne := S.ne
  refine ⟨_, pss_cons (ps_set (i := 2) sc_draw.nd rfl (Or.inl rfl) (pe_ix ix_list (pv 0) pe_int (fun _ _ => rfl)))
    (pss_cons (ps_while PassesOwn.never (PW.pt (pw_and (pt_cmpR op_gt (pe_callB call_len_seq (by rfl) O.zlen PySem.boot_len (pa_cons (pv 2) pa_nil)) pe_int (nomark _)) (pw_and1 (pt_cmpR op_eq (pe_ix ix_list (pv 2) pe_int (fun _ _ => rfl)) pe_int (nomark _)))))
      (pss_one (ps_expr (pe_bm PySem.F.plainAttrs_list PySem.F.slot_list_pop PySem.F.type_list_pop mt_popAt (pv 2) (pa_cons pe_int pa_nil)))))
    (pss_cons (ps_if (pt_cmpR op_gt (pe_callB call_len_seq (by rfl) O.zlen PySem.boot_len (pa_cons (pv 2) pa_nil)) pe_int (nomark _))
      (pss_cons (ps_set (i := 3) sc_draw.nd rfl (Or.inl rfl) (pe_ix ix_list (pv 2) pe_int (fun _ _ => rfl)))
      (pss_cons (ps_asg (pe_op op_fdiv (pv 3) (pv 1)) (pg_sub (pv 2) pe_int set_list))
      (pss_one (ps_ret (pe_op op_mod (pe_callTy call_int1 (by rfl) O.zint PyProof.Rows.boot_int (pa_cons (pv 3) pa_nil)) (pv 1)))))) pss_nil)
    (pss_cons (ps_set (i := 4) sc_draw.nd rfl (Or.inl rfl) (pe_op op_mod (pe_callTy call_int1 (by rfl) O.zint PyProof.Rows.boot_int (pa_cons (pe_op op_add (pe_op op_mul (pe_ix ix_list (pv 0) pe_int (fun _ _ => rfl)) pe_int) pe_int) pa_nil)) pe_int))
    (pss_cons (ps_asg (pv 4) (pg_sub (pv 0) pe_int set_list))
    (pss_one (ps_ret (pe_op op_mod (pe_callTy call_int1 (by rfl) O.zint PyProof.Rows.boot_int (pa_cons (pe_op op_fdiv (pv 4) pe_int) pa_nil)) (pv 1)))))))), ?_⟩
  obtain ⟨⟨m, hst⟩, ⟨ns0, hl0, hc0⟩⟩ := S
  refine ⟨_, rfl, st, _, _, _, rfl, rfl, SqL.of hst, at_of (j := 0) rfl rfl, ?_⟩
  refine ⟨fun n σ H2 => ∃ ns : List Int, n = ns.length ∧ ns.length ≤ 63 ∧ σ = [some (.ref st), some (.int many), some (.ref c), none, none] ∧ H2 st = some (.lst [.ref c, .int m]) ∧ H2 c = some (.lst (ns.map V.int)) ∧ But H H2 st c,
    ⟨_, ns0, rfl, hl0, rfl, hst, hc0, But.refl _ _ _⟩, ?_⟩
  rintro n σ H2 ⟨ns, rfl, hl, rfl, hst2, hc2, hb⟩
  refine ⟨_, rfl, c, _, rfl, .inl (SqL.of hc2), _, _, rfl, rfl, _, rfl, ?_⟩
  cases ns with
  | nil =>
    refine iteF (iteF ?_)
    refine ⟨_, rfl, c, _, rfl, .inl (SqL.of hc2), _, _, rfl, rfl, _, rfl, iteF ?_⟩
    refine ⟨_, rfl, st, _, _, _, rfl, rfl, SqL.of hst2, at_of (j := 1) rfl rfl, _, _, rfl, rfl, .inr ⟨by decide, by decide⟩, _, _, rfl, rfl, .inl ⟨_, rfl, _, _, rfl, rfl, (by show (0 : Int) < 2147483647; decide), ?_⟩⟩
    refine ⟨_, rfl, _, rfl, st, _, _, 1, rfl, rfl, hst2, rfl, ?_⟩
    refine ⟨_, rfl, _, _, rfl, rfl, ⟨by decide, by decide⟩, .inl ⟨_, rfl, _, rfl, _, _, rfl, rfl, hm0, ?_⟩⟩
    refine q _ _ (Int.emod_nonneg _ (by omega)) (Int.emod_lt_of_pos _ hm0) (But.go ?_ ⟨⟨_, upd_same⟩, ⟨[], by decide, ?_⟩⟩)
    · intro b o e h1 h2
      rw [upd_ne h1]
      exact hb b o e h1 h2
    · rw [upd_ne hne.symm]; exact hc2
  | cons n ns =>
    have hpos : decide ((0 : Int) < (((n :: ns).map V.int).length : Nat)) = true := decide_eq_true (by rw [List.length_map, List.length_cons]; omega)
    rw [hpos]
    refine iteT ⟨_, rfl, c, _, _, _, rfl, rfl, SqL.of hc2, at_of (j := 0) rfl rfl, rfl, _, rfl, ite2 (fun z => ?_) (fun z => ?_)⟩
    · refine ⟨fun σ' H' => ∃ m', m' < (n :: ns).length ∧ ∃ ns' : List Int, m' = ns'.length ∧ ns'.length ≤ 63 ∧ σ' = [some (.ref st), some (.int many), some (.ref c), none, none] ∧ H' st = some (.lst [.ref c, .int m]) ∧ H' c = some (.lst (ns'.map V.int)) ∧ But H H' st c,
        fun σ' H' h => h, ?_⟩
      refine ⟨_, rfl, .inl ⟨rfl, _, SqL.of hc2⟩, c, _, _, 0, _, rfl, rfl, hc2, by decide, by decide, by simp [seqIndex?], rfl, ?_⟩
      refine ⟨ns.length, by simp, ns, rfl, by simp at hl; omega, rfl, ?_, ?_, ?_⟩
      · rw [upd_ne hne]; exact hst2
      · exact upd_same
      · intro b o e h1 h2
        rw [upd_ne h2]
        exact hb b o e h1 h2
    · refine ⟨_, rfl, c, _, rfl, .inl (SqL.of hc2), _, _, rfl, rfl, _, rfl, ?_⟩
      rw [hpos]
      refine iteT ⟨_, rfl, c, _, _, _, rfl, rfl, SqL.of hc2, at_of (j := 0) rfl rfl, ?_⟩
      refine ⟨_, rfl, _, rfl, _, _, rfl, rfl, ⟨hm0, by omega⟩, _, rfl, c, _, _, 0, rfl, rfl, hc2, by simp [ixN], ?_⟩
      refine ⟨_, rfl, .inl ⟨_, rfl, _, rfl, _, _, rfl, rfl, hm0, ?_⟩⟩
      refine q _ _ (Int.emod_nonneg _ (by omega)) (Int.emod_lt_of_pos _ hm0) (But.go ?_ ⟨⟨m, ?_⟩, ⟨(n / many) :: ns, by simpa using hl, ?_⟩⟩)
      · intro b o e h1 h2
        rw [upd_ne h2]
        exact hb b o e h1 h2
      · rw [upd_ne hne]; exact hst2
      · exact upd_same
end
end S2
namespace S2
open PySem L2
/-- what is new in H' -/
def Fr (H H' : Hp) : Hp := fun b => match H b with
  | none => H' b
  | some _ => none
theorem fr_get {H H' : Hp} {b : Addr} {o : HO} (h : Fr H H' b = some o) : H b = none ∧ H' b = some o := by
  unfold Fr at h
  split at h
  · rename_i e; exact ⟨e, h⟩
  · cases h
theorem fr_of {H H' : Hp} {b : Addr} {o : HO} (h : H b = none) (h' : H' b = some o) : Fr H H' b = some o := by
  unfold Fr
  rw [h]
  exact h'
theorem fr_same (H H' : Hp) : Same (Fr H H') H' := fun b o e => (fr_get e).2
def Dom (H H' : Hp) : Prop := ∀ b, H' b = none → H b = none
theorem Go.dom {st c : Addr} {H H' : Hp} (g : Go st c H H') : Dom H H' := fun b e => by
  cases z : H b with
  | none => rfl
  | some o =>
    obtain ⟨h1, h2⟩ := g.st.free e
    have := (off_get (g.same _ _ (off_of z h1 h2))).1
    rw [e] at this
    cases this
theorem Dom.trans {H H1 H2 : Hp} (a : Dom H H1) (b : Dom H1 H2) : Dom H H2 := fun x e => a x (b x e)
theorem fr_dom {H H1 H2 : Hp} (d : Dom H H1) : Same (Fr H1 H2) (Fr H H2) := fun b o e => fr_of (d b (fr_get e).1) (fr_get e).2
theorem fr_go {st c : Addr} {H H1 H2 : Hp} (S : StAt H st c) (g : Go st c H1 H2) : Same (Fr H H1) (Fr H H2) := fun b o e => by
  obtain ⟨e1, e2⟩ := fr_get e
  obtain ⟨h1, h2⟩ := S.free e1
  exact fr_of e1 (off_get (g.same _ _ (off_of e2 h1 h2))).1
theorem fr_up {st c : Addr} {H H1 H2 H3 : Hp} (S : StAt H1 st c) (d : Dom H H1) (g : Go st c H2 H3) : Same (Fr H1 H2) (Fr H H3) := (fr_go S g).trans (fr_dom d)
theorem fr_set {H H' : Hp} {d : Addr} {o o' : HO} (h : H d = some o) : Fr H (upd H' d o') = Fr H H' := by
  funext b
  unfold Fr
  cases z : H b with
  | some _ => rfl
  | none =>
    have : b ≠ d := fun e => by rw [e, h] at z; cases z
    rw [upd_ne this]
theorem Go.kept {st c b : Addr} {H H' : Hp} {o : HO} (g : Go st c H H') (h : H b = some o) (h1 : b ≠ st) (h2 : b ≠ c) : H' b = some o := (off_get (g.same _ _ (off_of h h1 h2))).1
/-- a new object -/
theorem Go.mk1 {st c p : Addr} {H H1 : Hp} (g : Go st c H H1) (np : H1 p = none) (o : HO) : Go st c H (upd H1 p o) := g.trans (Go.new g.st np o).1
theorem Go.same1 {st c : Addr} {H H1 H2 : Hp} (g : Go st c H H1) (s : Same H1 H2) : Go st c H H2 := g.trans (Go.of_same g.st s)
/-- a list made by a comprehension, its items made of new objects, draws in between -/
theorem lc_go {α : Type} {st c d : Addr} {H0 : Hp} {n : Nat} {J : It} {X : Nat → V → Prop} {Qd : Hp → Prop} {B : V → Hp → (Hp → Prop) → Prop} (R : Hp → α → V → Prop) (Rm : ∀ H H' x v, Same H H' → R H x v → R H' x v) (Z : α → Prop)
    (S : StAt H0 st c) (nd : H0 d = none) (hn : n ≤ 1000) (hstop : ∀ H, Go st c H0 H → J.stop n H) (hgo : ∀ i H, i < n → Go st c H0 H → J.go i H) (hy : ∀ i H x H', i < n → Go st c H0 H → J.yld i H x H' → H' = H ∧ X i x)
    (hs : ∀ i x H acc, i < n → X i x → Go st c H0 H → H d = some (.lst acc) → ∀ Nx : Hp → Prop, (∀ y H4 (z : α), Go st c H H4 → R (Fr H H4) z y → Z z → ∃ acc, H4 d = some (.lst acc) ∧ acc.length < sizeLine ∧ Nx (upd H4 d (.lst (acc ++ [y])))) → B x H Nx)
    (hd : ∀ H zs acc, Go st c H0 H → H d = some (.lst acc) → Each R (Fr (upd H0 d (.lst [])) H) zs acc → zs.length = n → (∀ z ∈ zs, Z z) → Qd H) :
    ∃ W : Nat → Nat → Hp → Prop, (∃ m, W 0 m (upd H0 d (.lst []))) ∧ ∀ i m H, W i m H →
      (J.stop i H ∧ Qd H) ∨ (J.go i H ∧ ∃ Nx : Hp → Prop, (∀ H', Nx H' → ∃ m', m' < m ∧ W (i + 1) m' H') ∧ ∀ x H', J.yld i H x H' → B x H' Nx) := by
  obtain ⟨hd1, hd2⟩ := S.free nd
  let Pv : Nat → Hp → Prop := fun i H => ∃ acc zs, H d = some (.lst acc) ∧ Go st c H0 H ∧ Each R (Fr (upd H0 d (.lst [])) H) zs acc ∧ zs.length = i ∧ ∀ z ∈ zs, Z z
  refine ⟨fun i m H => m + i = n ∧ Pv i H, ⟨n, rfl, [], [], upd_same, (Go.new S nd _).1, trivial, rfl, fun z hz => by cases hz⟩, ?_⟩
  rintro i m H ⟨em, acc, zs, hacc, g, he, hl, hz⟩
  cases m with
  | zero =>
    have ei : i = n := by omega
    subst ei
    exact .inl ⟨hstop H g, hd H zs acc g hacc he hl hz⟩
  | succ m =>
    have hi : i < n := by omega
    refine .inr ⟨hgo i H hi g, Pv (i + 1), fun H' p => ⟨m, Nat.lt_succ_self _, by omega, p⟩, fun x H' y => ?_⟩
    obtain ⟨rfl, hx⟩ := hy i H x H' hi g y
    refine hs i x H' acc hi hx g hacc (Pv (i + 1)) fun y H4 z g4 r zz => ?_
    have h4 := g4.kept hacc hd1 hd2
    have hal := Each.len he
    refine ⟨acc, h4, small5 (by omega), acc ++ [y], zs ++ [z], upd_same, ?_, ?_, by rw [List.length_append, hl]; rfl, ?_⟩
    · have g04 := g.trans g4
      refine ⟨fun b o e => ?_, stAt_upd g04.st hd1 hd2⟩
      have eb := off_get e
      have hbd : b ≠ d := fun e2 => by rw [e2, nd] at eb; cases eb.1
      rw [off_upd hd1 hd2, upd_ne hbd]
      exact g04.same _ _ e
    · rw [fr_set upd_same]
      have SH : StAt (upd H0 d (.lst [])) st c := stAt_upd S hd1 hd2
      refine Each.app (Each.mono (fun a v h => Rm _ _ _ _ (fr_go SH g4) h) he) ⟨Rm _ _ _ _ (fr_dom fun b e => ?_) r, trivial⟩
      by_cases hb : b = d
      · rw [hb, hacc] at e; cases e
      · rw [upd_ne hb]
        exact g.dom b e
    · intro a ha
      rcases List.mem_append.mp ha with h | h
      · exact hz a h
      · rw [List.mem_singleton.mp h]; exact zz
/-- .. over a list that stands -/
theorem itl_ok {K : PySem.W.Frag} {st c a : Addr} {H0 : Hp} {xs : List V} (ha : ∀ H, Go st c H0 H → SqL K H a xs) :
    (∀ H, Go st c H0 H → (Itl K a).stop xs.length H) ∧ (∀ i H, i < xs.length → Go st c H0 H → (Itl K a).go i H) ∧ (∀ i H x H', i < xs.length → Go st c H0 H → (Itl K a).yld i H x H' → H' = H ∧ xs[i]? = some x) :=
  ⟨fun H g => ⟨xs, ha H g, Nat.le_refl _⟩, fun i H hi g => ⟨xs, xs[i], ha H g, List.getElem?_eq_getElem hi⟩, fun i H x H' _ g y => ⟨y.1, y.2 xs (ha H g)⟩⟩
theorem itr_ok {st c : Addr} {H0 : Hp} {n : Nat} : (∀ H, Go st c H0 H → (Itr 0 n).stop n H) ∧ (∀ i H, i < n → Go st c H0 H → (Itr 0 n).go i H) ∧ (∀ i H x H', i < n → Go st c H0 H → (Itr 0 n).yld i H x H' → H' = H ∧ x = V.int (0 + (i : Int))) :=
  ⟨fun H g => Nat.le_refl n, fun i H hi g => hi, fun i H x H' _ g y => y⟩
/-! ### drawn expressions -/
def GoodE (ns : List Bool) (vars : Int) : Ex → Prop
  | .num w => 0 ≤ w ∧ w < 16
  | .var i => 0 ≤ i ∧ i < vars
  | .arg b => b ∈ ns
  | .one _ a => GoodE ns vars a
  | .two _ a b => GoodE ns vars a ∧ GoodE ns vars b
def argV (b : Bool) : V := .str (argName b)
def spExpr (n : Nat) : Sp := fun vs H Q _ => ∃ (st c nm : Addr) (ns : List Bool) (vars deep : Int), vs = [.ref st, .ref nm, .int vars, .int deep] ∧ StAt H st c ∧ nm ≠ st ∧ nm ≠ c ∧ H nm = some (.lst (ns.map argV)) ∧ ns.length ≤ 3 ∧ 0 ≤ vars ∧ vars ≤ 10 ∧ 1 ≤ deep ∧ deep ≤ n ∧
  ∀ e v H', Go st c H H' → ExAt (Fr H H') e v → GoodE ns vars e → (dep e : Int) ≤ deep → Q v H'
theorem pick2 {a b r : Int} (h0 : 0 ≤ r) (h1 : r < 2) : ∃ m, atI [V.int a, V.int b] r = some (.int m) ∧ (m = a ∨ m = b) := by
  have : r = 0 ∨ r = 1 := by omega
  rcases this with rfl | rfl
  · exact ⟨a, rfl, .inl rfl⟩
  · exact ⟨b, rfl, .inr rfl⟩
theorem pickL {xs : List V} {r : Int} (h0 : 0 ≤ r) (h1 : r < ((xs.length : Nat) : Int)) : ∃ x, atI xs r = some x ∧ xs[r.toNat]? = some x := by
  have hk : r.toNat < xs.length := by omega
  refine ⟨xs[r.toNat], at_of (j := r.toNat) (by omega) (List.getElem?_eq_getElem hk), List.getElem?_eq_getElem hk⟩
end S2
namespace S2
open PySem L2
def ops7 : List Op := [.add, .sub, .mul, .eq, .lt, .and, .or]
theorem ops7_v : ([V.str "+", V.str "-", V.str "*", V.str "==", V.str "<", V.str "and", V.str "or"] : List V) = ops7.map fun o => V.str o.name := rfl
section
variable {P : Program} {w : World} {K : PySem.W.Frag} {mg : Str → Option Value} {base : Heap} {D : Defs}
theorem sc__law_expr : FnScope ["state", "names", "variables", "deep", "kind", "row", "first", "operator", "name", "v"] ["state", "names", "variables", "deep"] (defScope s__law_expr) := ⟨rfl, rfl, rfl, by decide +kernel, rfl, by decide +kernel, by decide +kernel⟩
theorem no_expr : FnOk P w K mg base CX0 1 D.f_law_expr D.d_law_expr ["state", "names", "variables", "deep"] (spExpr 0) := by
  have no : ∀ vs H Q E, ¬ spExpr 0 vs H Q E := fun vs H Q E h => by
    obtain ⟨st, c, nm, ns, vars, deep, _, _, _, _, _, _, _, _, h1, h2, _⟩ := h
    omega
  exact ⟨fun vs H Q E h => absurd h (no vs H Q E), fun A outer s H args us vs Q E _ _ _ _ h => absurd h (no vs H Q E)⟩
/-- the row of leaves, as it is made -/
def RowAt (st c : Addr) (ns : List Bool) (vars : Int) (H0 H : Hp) (p : Addr) (k : Nat) : Prop := ∃ xs es, p ≠ st ∧ p ≠ c ∧ H p = some (.lst xs) ∧ Each ExAt (Fr H0 H) es xs ∧ (∀ e ∈ es, GoodE ns vars e ∧ dep e = 1) ∧ 1 ≤ xs.length ∧ xs.length ≤ k
/-- a longer row -/
theorem row_more {st c p d : Addr} {ns : List Bool} {vars : Int} {H H1 H2 : Hp} {acc : List V} {zs : List Ex} {k m : Nat} (r : RowAt st c ns vars H H1 p k) (S : StAt H st c) (g1 : Go st c H H1) (g : Go st c H1 H2) (nd : H1 d = none) (hd : H2 d = some (.lst acc))
    (he : Each ExAt (Fr (upd H1 d (.lst [])) H2) zs acc) (hz : ∀ z ∈ zs, GoodE ns vars z ∧ dep z = 1) (hl : acc.length ≤ m) :
    ∃ xs, H2 p = some (.lst xs) ∧ xs.length + acc.length ≤ k + m ∧ ∀ p2, H2 p2 = none → RowAt st c ns vars H (upd H2 p2 (.lst (xs ++ acc))) p2 (k + m) := by
  obtain ⟨xs, es, h1, h2, h3, h4, h5, h6, h7⟩ := r
  refine ⟨xs, g.kept h3 h1 h2, by omega, fun p2 np2 => ?_⟩
  have g2 := g1.trans g
  obtain ⟨q1, q2⟩ := g2.st.free np2
  have up := Go.new g2.st np2 (.lst (xs ++ acc))
  have f1 : Same (Fr H H1) (Fr H (upd H2 p2 (.lst (xs ++ acc)))) := fr_go S (g.trans up.1)
  have f2 : Same (Fr (upd H1 d (.lst [])) H2) (Fr H (upd H2 p2 (.lst (xs ++ acc)))) := fr_up (stAt_upd g1.st (g1.st.free nd).1 (g1.st.free nd).2) (fun b e => by
    by_cases hb : b = d
    · rw [hb, upd_same] at e; cases e
    · rw [upd_ne hb] at e
      exact g1.dom b e) up.1
  refine ⟨xs ++ acc, es ++ zs, q1, q2, upd_same, Each.app (Each.mono (fun a v h => h.same f1) h4) (Each.mono (fun a v h => h.same f2) he), ?_, ?_, ?_⟩
  · intro e he'
    rcases List.mem_append.mp he' with h | h
    · exact h5 e h
    · exact hz e h
  · rw [List.length_append]; omega
  · rw [List.length_append]; omega
theorem exAt_mono : ∀ (H H' : Hp) (x : Ex) (v : V), Same H H' → ExAt H x v → ExAt H' x v := fun _ _ _ _ s h => h.same s
theorem more_expr {n : Nat} (O : Ok P K mg D) (G__law_expr : FnOk P w K mg base CX0 (n + 1) D.f_law_expr D.d_law_expr ["state", "names", "variables", "deep"] (spExpr n)) :
    FnOk P w K mg base CX0 (n + 2) D.f_law_expr D.d_law_expr ["state", "names", "variables", "deep"] (spExpr (n + 1)) := by
  have G__law_draw : FnOk P w K mg base CX0 1 D.f_law_draw D.d_law_draw ["state", "many"] spDraw := ok_draw O
  refine O.F_law_expr.ok sc__law_expr (fun vs H Q E h => ?_) (fun cdv A outer s H vs Q E hr h => ?_)
  · obtain ⟨st, c, nm, ns, vars, deep, rfl, _⟩ := h
    rfl
  obtain ⟨st, c, nm, ns, vars, deep, rfl, S, nm1, nm2, hnm, hns, hv0, hv1, hd0, hd1, q⟩ := h
  have nd := sc__law_expr.nd
  have bk : ∀ own scope, blkC ["state", "names", "variables", "deep", "kind", "row", "first", "operator", "name", "v"] (defScope s__law_expr) scope own = true → BlkOk ["state", "names", "variables", "deep", "kind", "row", "first", "operator", "name", "v"] (defScope s__law_expr) scope own := fun own scope h => blkOk_by h
  refine ⟨_, (pss_cons (ps_set (i := 4) nd rfl (Or.inl rfl) (pe_call G__law_draw (hr.mono (by omega)) rfl O.m_law_draw O.F_law_draw.kp O.b_law_draw .nil pass0 (pa_cons (pv 0) (pa_cons pe_int pa_nil))))
    (pss_cons (ps_if (PW.pt (pw_or (pt_cmpR op_le (pv 3) pe_int (nomark _)) (pw_or1 (pt_cmpR op_lt (pv 4) pe_int (nomark _))))) (pss_cons (ps_set (i := 5) nd rfl (Or.inl rfl) (pe_lst (pa_cons (pe_tup (pa_cons pe_str (pa_cons (pe_call G__law_draw (hr.mono (by omega)) rfl O.m_law_draw O.F_law_draw.kp O.b_law_draw .nil pass0 (pa_cons (pv 0) (pa_cons (pe_ix ix_list (pe_lst (pa_cons pe_int (pa_cons pe_int pa_nil))) (pe_call G__law_draw (hr.mono (by omega)) rfl O.m_law_draw O.F_law_draw.kp O.b_law_draw .nil pass0 (pa_cons (pv 0) (pa_cons pe_int pa_nil))) (fun _ _ => rfl)) pa_nil))) pa_nil))) pa_nil)))
    (pss_cons (ps_set (i := 5) nd rfl (Or.inl rfl) (pe_op op_cat (pe_op op_cat (pv 5) (pe_lc (own := [("name", 8)]) (g := gName 8) (by rfl) nd (pi_list (pv 1)) (bk [("name", 8)] _ (by decide +kernel)) (fun _ _ _ _ _ => (pg_name (i := 8) nd rfl (Or.inl rfl))) (fun _ _ _ _ _ => pts_nil) (fun _ _ _ _ _ => (pe_tup (pa_cons (pv 8) pa_nil))))) (pe_lc (own := [("name", 8)]) (g := gName 8) (by rfl) nd (pi_list (pv 1)) (bk [("name", 8)] _ (by decide +kernel)) (fun _ _ _ _ _ => (pg_name (i := 8) nd rfl (Or.inl rfl))) (fun _ _ _ _ _ => pts_nil) (fun _ _ _ _ _ => (pe_tup (pa_cons (pv 8) pa_nil))))))
    (pss_cons (ps_set (i := 5) nd rfl (Or.inl rfl) (pe_op op_cat (pv 5) (pe_lc (own := [("v", 9)]) (g := gName 9) (by rfl) nd (pi_range1 (by rfl) O.zrange (pa_cons (pv 2) pa_nil)) (bk [("v", 9)] _ (by decide +kernel)) (fun _ _ _ _ _ => (pg_name (i := 9) nd rfl (Or.inl rfl))) (fun _ _ _ _ _ => pts_nil) (fun _ _ _ _ _ => (pe_tup (pa_cons pe_str (pa_cons (pv 9) pa_nil)))))))
    (pss_one (ps_ret (pe_ix ix_list (pv 5) (pe_call G__law_draw (hr.mono (by omega)) rfl O.m_law_draw O.F_law_draw.kp O.b_law_draw .nil pass0 (pa_cons (pv 0) (pa_cons (pe_callB call_len_seq (by rfl) O.zlen PySem.boot_len (pa_cons (pv 5) pa_nil)) pa_nil))) (fun _ _ => rfl))))))) pss_nil)
    (pss_cons (ps_if (pt_cmpR op_lt (pv 4) pe_int (nomark _)) (pss_cons (ps_set (i := 6) nd rfl (Or.inl rfl) (pe_call G__law_expr (hr.mono (by omega)) rfl O.m_law_expr O.F_law_expr.kp O.b_law_expr .nil pass0 (pa_cons (pv 0) (pa_cons (pv 1) (pa_cons (pv 2) (pa_cons (pe_op op_sub (pv 3) pe_int) pa_nil))))))
    (pss_one (ps_ret (pe_tup (pa_cons pe_str (pa_cons (pv 6) (pa_cons (pe_call G__law_expr (hr.mono (by omega)) rfl O.m_law_expr O.F_law_expr.kp O.b_law_expr .nil pass0 (pa_cons (pv 0) (pa_cons (pv 1) (pa_cons (pv 2) (pa_cons (pe_op op_sub (pv 3) pe_int) pa_nil))))) pa_nil))))))) pss_nil)
    (pss_cons (ps_if (pt_cmpR op_eq (pv 4) pe_int (nomark _)) (pss_one (ps_ret (pe_tup (pa_cons (pe_ix ix_list (pe_lst (pa_cons pe_str (pa_cons pe_str pa_nil))) (pe_call G__law_draw (hr.mono (by omega)) rfl O.m_law_draw O.F_law_draw.kp O.b_law_draw .nil pass0 (pa_cons (pv 0) (pa_cons pe_int pa_nil))) (fun _ _ => rfl)) (pa_cons (pe_call G__law_expr (hr.mono (by omega)) rfl O.m_law_expr O.F_law_expr.kp O.b_law_expr .nil pass0 (pa_cons (pv 0) (pa_cons (pv 1) (pa_cons (pv 2) (pa_cons (pe_op op_sub (pv 3) pe_int) pa_nil))))) pa_nil))))) pss_nil)
    (pss_cons (ps_set (i := 6) nd rfl (Or.inl rfl) (pe_call G__law_expr (hr.mono (by omega)) rfl O.m_law_expr O.F_law_expr.kp O.b_law_expr .nil pass0 (pa_cons (pv 0) (pa_cons (pv 1) (pa_cons (pv 2) (pa_cons (pe_op op_sub (pv 3) pe_int) pa_nil))))))
    (pss_cons (ps_set (i := 7) nd rfl (Or.inl rfl) (pe_ix ix_list (pe_lst (pa_cons pe_str (pa_cons pe_str (pa_cons pe_str (pa_cons pe_str (pa_cons pe_str (pa_cons pe_str (pa_cons pe_str pa_nil)))))))) (pe_call G__law_draw (hr.mono (by omega)) rfl O.m_law_draw O.F_law_draw.kp O.b_law_draw .nil pass0 (pa_cons (pv 0) (pa_cons pe_int pa_nil))) (fun _ _ => rfl)))
    (pss_one (ps_ret (pe_tup (pa_cons (pv 7) (pa_cons (pv 6) (pa_cons (pe_call G__law_expr (hr.mono (by omega)) rfl O.m_law_expr O.F_law_expr.kp O.b_law_expr .nil pass0 (pa_cons (pv 0) (pa_cons (pv 1) (pa_cons (pv 2) (pa_cons (pe_op op_sub (pv 3) pe_int) pa_nil))))) pa_nil)))))))))))), ?_⟩
  refine ⟨_, rfl, st, c, 8, rfl, S, by decide, by decide, fun kd H1 k0 k8 g1 => ?_⟩
  have hnm1 := g1.kept hnm nm1 nm2
  refine ⟨_, rfl, _, _, rfl, rfl, _, rfl, ite2 (fun c1 => ?leaf1) (fun c1 => ⟨_, rfl, _, _, rfl, rfl, _, rfl, ite2 (fun c2 => ?leaf2) (fun c2 => ?_)⟩)⟩
  case leaf1 | leaf2 =>
    refine ⟨_, rfl, (by show 2 ≤ sizeLine; decide), fun l nl => ⟨_, rfl, st, c, 2, rfl, stAt_upd g1.st (g1.st.free nl).1 (g1.st.free nl).2, by decide, by decide, fun r H2 r0 r2 g2 => ?_⟩⟩
    have g02 := (g1.mk1 nl (.lst [.int 3, .int 16])).trans g2
    obtain ⟨m, hm, hm2⟩ := pick2 (a := 3) (b := 16) r0 r2
    refine ⟨l, _, _, _, rfl, rfl, SqL.of (g2.kept upd_same (g1.st.free nl).1 (g1.st.free nl).2), hm, st, c, m, rfl, g02.st, by omega, by omega, fun wd H3 w0 w1 g3 => ?_⟩
    have g03 := g02.trans g3
    refine ⟨(by show 2 ≤ sizeLine; decide), fun t nt => ⟨(by show 1 ≤ sizeLine; decide), fun p np => ?_⟩⟩
    have g05 := (g03.mk1 nt (.tup [.str "num", .int wd])).mk1 np (.lst [.ref t])
    have hn5 := g05.kept hnm nm1 nm2
    have nt0 : H t = none := g03.dom t nt
    obtain ⟨pq1, pq2⟩ := (g03.mk1 nt (.tup [.str "num", .int wd])).st.free np
    have row1 : RowAt st c ns vars H (upd (upd H3 t (.tup [.str "num", .int wd])) p (.lst [.ref t])) p 1 := by
      refine ⟨[.ref t], [.num wd], pq1, pq2, upd_same, ⟨⟨t, rfl, fr_of nt0 ?_⟩, trivial⟩, ?_, Nat.le_refl _, Nat.le_refl _⟩
      · rw [upd_ne (ne_of_none upd_same np)]; exact upd_same
      · intro e he
        rw [List.mem_singleton.mp he]
        exact ⟨⟨w0, by omega⟩, rfl⟩
    -- the names, twice
    refine ⟨_, rfl, _, rfl, nm, rfl, ⟨_, SqL.of hn5⟩, fun d nd1 => ?_⟩
    obtain ⟨j1, j2, j3⟩ := itl_ok (K := K) (xs := ns.map argV) (a := nm) (H0 := upd (upd H3 t (.tup [.str "num", .int wd])) p (.lst [.ref t])) (fun H g => SqL.of (g.kept hn5 nm1 nm2))
    have hnl : (ns.map argV).length ≤ 3 := by rw [List.length_map]; exact hns
    refine lc_go ExAt exAt_mono (fun e => GoodE ns vars e ∧ dep e = 1) g05.st nd1 (n := (ns.map argV).length) (by omega) j1 j2 j3 ?_ ?_
    · intro i x H6 acc hi hx g6 hacc Nx k
      obtain ⟨b, hb, rfl⟩ := List.mem_map.mp (List.mem_of_getElem? hx)
      refine ⟨rfl, yes (iteT ?_)⟩
      refine ⟨_, rfl, (by show 1 ≤ sizeLine; decide), fun t nt => ?_⟩
      exact k (.ref t) _ (.arg b) (Go.new g6.st nt _).1 ⟨t, rfl, fr_of nt upd_same⟩ ⟨hb, rfl⟩
    intro H6 zs acc g6 hacc he hl hz
    obtain ⟨xs6, hp6, hx6, row6⟩ := row_more row1 S g05 g6 nd1 hacc he hz (m := 3) (by rw [Each.len he, hl]; exact hnl)
    refine ⟨p, d, xs6, acc, rfl, rfl, hp6, hacc, Nat.le_of_lt (small5 (by omega)), fun p2 np2 => ?_⟩
    have row7 := row6 p2 np2
    have g07 := (g05.trans g6).mk1 np2 (.lst (xs6 ++ acc))
    have hn7 := g07.kept hnm nm1 nm2
    refine ⟨_, rfl, nm, rfl, ⟨_, SqL.of hn7⟩, fun d2 nd2 => ?_⟩
    obtain ⟨j1, j2, j3⟩ := itl_ok (K := K) (xs := ns.map argV) (a := nm) (H0 := upd H6 p2 (.lst (xs6 ++ acc))) (fun H g => SqL.of (g.kept hn7 nm1 nm2))
    refine lc_go ExAt exAt_mono (fun e => GoodE ns vars e ∧ dep e = 1) g07.st nd2 (n := (ns.map argV).length) (by omega) j1 j2 j3 ?_ ?_
    · intro i x H8 acc hi hx g8 hacc Nx k
      obtain ⟨b, hb, rfl⟩ := List.mem_map.mp (List.mem_of_getElem? hx)
      refine ⟨rfl, yes (iteT ?_)⟩
      refine ⟨_, rfl, (by show 1 ≤ sizeLine; decide), fun t nt => ?_⟩
      exact k (.ref t) _ (.arg b) (Go.new g8.st nt _).1 ⟨t, rfl, fr_of nt upd_same⟩ ⟨hb, rfl⟩
    intro H8 zs2 acc2 g8 hacc2 he2 hl2 hz2
    obtain ⟨xs8, hp8, hx8, row8⟩ := row_more row7 S g07 g8 nd2 hacc2 he2 hz2 (m := 3) (by rw [Each.len he2, hl2]; exact hnl)
    refine ⟨p2, d2, xs8, acc2, rfl, rfl, hp8, hacc2, Nat.le_of_lt (small5 (by omega)), fun p3 np3 => ?_⟩
    have row9 := row8 p3 np3
    have g09 := (g07.trans g8).mk1 np3 (.lst (xs8 ++ acc2))
    -- the variables
    refine ⟨_, rfl, _, rfl, vars, rfl, by omega, by omega, fun d3 nd3 => ?_⟩
    obtain ⟨i1, i2, i3⟩ := itr_ok (st := st) (c := c) (n := vars.toNat) (H0 := upd H8 p3 (.lst (xs8 ++ acc2)))
    refine lc_go ExAt exAt_mono (fun e => GoodE ns vars e ∧ dep e = 1) g09.st nd3 (n := vars.toNat) (by omega) i1 i2 i3 ?_ ?_
    · intro i x H10 acc hi hx g10 hacc Nx k
      subst hx
      refine ⟨rfl, yes (iteT ?_)⟩
      refine ⟨_, rfl, (by show 2 ≤ sizeLine; decide), fun t nt => ?_⟩
      exact k (.ref t) _ (.var (0 + (i : Int))) (Go.new g10.st nt _).1 ⟨t, rfl, fr_of nt upd_same⟩ ⟨⟨by omega, by omega⟩, rfl⟩
    intro H10 zs3 acc3 g10 hacc3 he3 hl3 hz3
    obtain ⟨xs10, hp10, hx10, row10⟩ := row_more row9 S g09 g10 nd3 hacc3 he3 hz3 (m := 10) (by rw [Each.len he3, hl3]; omega)
    refine ⟨p3, d3, xs10, acc3, rfl, rfl, hp10, hacc3, Nat.le_of_lt (small5 (by omega)), fun p4 np4 => ?_⟩
    obtain ⟨xs11, es11, k1, k2, k3, k4, k5, k6, k7⟩ := row10 p4 np4
    have g11 := (g09.trans g10).mk1 np4 (.lst (xs10 ++ acc3))
    -- one of the row
    refine ⟨_, rfl, _, rfl, _, rfl, p4, xs11, rfl, .inl (SqL.of k3), st, c, _, rfl, g11.st, by omega, by omega, fun r H12 z0 z1 g12 => ?_⟩
    obtain ⟨x, hx, hx2⟩ := pickL (xs := xs11) z0 z1
    obtain ⟨e, he11, hex⟩ := Each.get k4 hx2
    obtain ⟨gd, dp⟩ := k5 e (List.mem_of_getElem? he11)
    refine ⟨p4, xs11, _, x, rfl, rfl, SqL.of (g12.kept k3 k1 k2), hx, ?_⟩
    refine q e x H12 (g11.trans g12) (hex.same (fr_go S g12)) gd ?_
    rw [dp]
    omega
  have c1' : ¬ deep ≤ 1 := fun y => c1 (decide_eq_true y)
  have hdd : (((n : Nat) + 1 : Nat) : Int) = (n : Int) + 1 := by omega
  -- a part
  refine ⟨_, rfl, _, _, rfl, rfl, _, rfl, ite2 (fun c3 => ?_) (fun c3 => ?_)⟩
  · refine ⟨_, rfl, _, rfl, _, rfl, _, rfl, _, _, rfl, rfl, st, c, nm, ns, vars, deep - 1, rfl, g1.st, nm1, nm2, hnm1, hns, hv0, hv1, by omega, by omega, fun e1 v1 H2 g2 h1 gd1 dp1 => ?_⟩
    have g02 := g1.trans g2
    refine ⟨_, rfl, _, rfl, _, rfl, _, rfl, _, rfl, _, _, rfl, rfl, st, c, nm, ns, vars, deep - 1, rfl, g02.st, nm1, nm2, g02.kept hnm nm1 nm2, hns, hv0, hv1, by omega, by omega, fun e2 v2 H3 g3 h2 gd2 dp2 => ?_⟩
    refine ⟨(by show 3 ≤ sizeLine; decide), fun p np => ?_⟩
    have g03 := g02.trans g3
    have g04 := g03.mk1 np (.tup [.str "read", v1, v2])
    refine q (.two .read e1 e2) _ _ g04 ⟨p, v1, v2, rfl, fr_of (g03.dom p np) upd_same, h1.same ?_, h2.same ?_⟩ ⟨gd1, gd2⟩ ?_
    · exact fr_up g1.st g1.dom (g3.mk1 np _)
    · exact fr_up g02.st g02.dom (Go.new g03.st np _).1
    · show ((1 + max (dep e1) (dep e2) : Nat) : Int) ≤ deep
      omega
  refine ⟨_, rfl, rfl, _, rfl, ite2 (fun c4 => ?_) (fun c4 => ?_)⟩
  · refine ⟨(by show 2 ≤ sizeLine; decide), fun l nl => ⟨_, rfl, st, c, 2, rfl, stAt_upd g1.st (g1.st.free nl).1 (g1.st.free nl).2, by decide, by decide, fun r H2 r0 r2 g2 => ?_⟩⟩
    have gl := g1.mk1 nl (.lst [.str "not", .str "sum"])
    have g02 := gl.trans g2
    obtain ⟨o, ho⟩ : ∃ o : Bool, atI [V.str "not", V.str "sum"] r = some (.str (oneName o)) := by
      have : r = 0 ∨ r = 1 := by omega
      rcases this with rfl | rfl
      · exact ⟨false, rfl⟩
      · exact ⟨true, rfl⟩
    refine ⟨l, _, _, _, rfl, rfl, SqL.of (g2.kept upd_same (g1.st.free nl).1 (g1.st.free nl).2), ho, ?_⟩
    refine ⟨_, rfl, _, rfl, _, rfl, _, rfl, _, _, rfl, rfl, st, c, nm, ns, vars, deep - 1, rfl, g02.st, nm1, nm2, g02.kept hnm nm1 nm2, hns, hv0, hv1, by omega, by omega, fun e2 v2 H3 g3 h2 gd2 dp2 => ?_⟩
    refine ⟨(by show 2 ≤ sizeLine; decide), fun p np => ?_⟩
    have g03 := g02.trans g3
    have g04 := g03.mk1 np (.tup [.str (oneName o), v2])
    refine q (.one o e2) _ _ g04 ⟨p, v2, rfl, fr_of (g03.dom p np) upd_same, h2.same ?_⟩ gd2 ?_
    · exact fr_up g02.st g02.dom (Go.new g03.st np _).1
    · show ((1 + dep e2 : Nat) : Int) ≤ deep
      omega
  refine ⟨_, rfl, _, rfl, _, rfl, _, rfl, _, _, rfl, rfl, st, c, nm, ns, vars, deep - 1, rfl, g1.st, nm1, nm2, hnm1, hns, hv0, hv1, by omega, by omega, fun e1 v1 H2 g2 h1 gd1 dp1 => ?_⟩
  have g02 := g1.trans g2
  refine ⟨(by show 7 ≤ sizeLine; decide), fun l nl => ⟨_, rfl, st, c, 7, rfl, stAt_upd g02.st (g02.st.free nl).1 (g02.st.free nl).2, by decide, by decide, fun r H3 r0 r7 g3 => ?_⟩⟩
  have gl := g02.mk1 nl (.lst (ops7.map fun o => V.str o.name))
  have g03 := gl.trans g3
  obtain ⟨o, ho⟩ : ∃ o : Op, atI (ops7.map fun o => V.str o.name) r = some (.str o.name) := by
    obtain ⟨x, hx, hx2⟩ := pickL (xs := ops7.map fun o => V.str o.name) (r := r) r0 r7
    obtain ⟨o, _, rfl⟩ := List.mem_map.mp (List.mem_of_getElem? hx2)
    exact ⟨o, hx⟩
  refine ⟨l, _, _, _, rfl, rfl, SqL.of (g3.kept upd_same (g02.st.free nl).1 (g02.st.free nl).2), ho, ?_⟩
  refine ⟨_, rfl, _, rfl, _, rfl, _, rfl, _, rfl, _, rfl, _, _, rfl, rfl, st, c, nm, ns, vars, deep - 1, rfl, g03.st, nm1, nm2, g03.kept hnm nm1 nm2, hns, hv0, hv1, by omega, by omega, fun e2 v2 H4 g4 h2 gd2 dp2 => ?_⟩
  refine ⟨(by show 3 ≤ sizeLine; decide), fun p np => ?_⟩
  have g04 := g03.trans g4
  have g05 := g04.mk1 np (.tup [.str o.name, v1, v2])
  refine q (.two o e1 e2) _ _ g05 ⟨p, v1, v2, rfl, fr_of (g04.dom p np) upd_same, h1.same ?_, h2.same ?_⟩ ⟨gd1, gd2⟩ ?_
  · exact fr_up g1.st g1.dom ((((Go.new g02.st nl _).1.trans g3).trans g4).mk1 np _)
  · exact fr_up g03.st g03.dom (Go.new g04.st np _).1
  · show ((1 + max (dep e1) (dep e2) : Nat) : Int) ≤ deep
    omega
theorem ok_expr (O : Ok P K mg D) : ∀ n, FnOk P w K mg base CX0 (n + 1) D.f_law_expr D.d_law_expr ["state", "names", "variables", "deep"] (spExpr n)
  | 0 => no_expr
  | n + 1 => more_expr O (ok_expr O n)
end
end S2
namespace S2
open PySem L2
theorem inV_arg {ns : List Bool} {b : Bool} (h : b ∈ ns) : inV (.str (argName b)) ((ns.map argName).map V.str) = true := by
  unfold inV
  rw [List.any_eq_true]
  exact ⟨.str (argName b), List.mem_map.mpr ⟨_, List.mem_map.mpr ⟨b, h, rfl⟩, rfl⟩, by cases b <;> decide +kernel⟩
theorem good_L {S : Sc} {ns : List Bool} (ha : S.args = ns.map argName) : ∀ {e : Ex}, GoodE ns S.variables e → chkL S e = none
  | .num w, h => if_pos h
  | .var i, h => if_pos h
  | .arg b, h => by
    show (if inV (.str (argName b)) (S.args.map V.str) = true then none else some _) = none
    rw [ha, inV_arg h, if_pos rfl]
  | .one _ a, h => good_L ha (e := a) h
  | .two _ a b, h => by
    show fst (chkL S a) (chkL S b) = none
    rw [good_L ha (e := a) h.1, good_L ha (e := b) h.2]
    rfl
theorem good_E {S : Sc} {ns : List Bool} (ha : S.args = ns.map argName) {e : Ex} (h : GoodE ns S.variables e) (hd : dep e ≤ 5) : chkE S e = none := by
  unfold chkE
  rw [if_neg (by omega)]
  exact good_L ha h
theorem good_Es {S : Sc} {ns : List Bool} (ha : S.args = ns.map argName) : ∀ {es : List Ex}, (∀ e ∈ es, GoodE ns S.variables e ∧ dep e ≤ 5) → chkEs S es = none
  | [], _ => rfl
  | e :: r, h => by
    rw [chkEs, good_E ha (h e List.mem_cons_self).1 (h e List.mem_cons_self).2]
    exact good_Es ha fun x hx => h x (List.mem_cons_of_mem _ hx)
def cS : Nat → Nat
  | 0 => 1
  | n + 1 => 1 + 2 * cS n
/-- what the statements' and bodies' draws are given -/
structure Given (vs4 : List V) (n : Nat) (H : Hp) (st c nm sh : Addr) (ns : List Bool) (S : Sc) : Prop where
  vs : vs4 = [.ref st, .ref sh, .ref nm, .bl S.writes, .int ((n : Nat) : Int)]
  sta : StAt H st c
  nm1 : nm ≠ st
  nm2 : nm ≠ c
  sh1 : sh ≠ st
  sh2 : sh ≠ c
  hnm : H nm = some (.lst (ns.map argV))
  hsh : H sh = some (.lst [.int S.width, .int S.variables])
  args : S.args = ns.map argName
  few : ns.length ≤ 3
  v0 : 0 ≤ S.variables
  v1 : S.variables ≤ 10
  w0 : 0 ≤ S.width
  w1 : S.width ≤ 10
theorem Given.go {n : Nat} {H H' : Hp} {st c nm sh : Addr} {ns : List Bool} {S : Sc} {vs : List V} (G : Given vs n H st c nm sh ns S) (g : Go st c H H') (m : Nat) : Given [.ref st, .ref sh, .ref nm, .bl S.writes, .int ((m : Nat) : Int)] m H' st c nm sh ns S :=
  ⟨rfl, g.st, G.nm1, G.nm2, G.sh1, G.sh2, g.kept G.hnm G.nm1 G.nm2, g.kept G.hsh G.sh1 G.sh2, G.args, G.few, G.v0, G.v1, G.w0, G.w1⟩
theorem Given.cast {n : Nat} {H : Hp} {st c nm sh : Addr} {ns : List Bool} {S : Sc} {vs vs' : List V} (G : Given vs n H st c nm sh ns S) (e : vs' = vs) : Given vs' n H st c nm sh ns S := e ▸ G
theorem BdV.nil {H : Hp} {p : Addr} (h : H p = some (.lst [])) : BdV H [] (.ref p) := ⟨p, [], rfl, h, SmsAt.nil⟩
def spStmtD (n : Nat) : Sp := fun vs H Q _ => ∃ (st c nm sh : Addr) (ns : List Bool) (S : Sc), Given vs n H st c nm sh ns S ∧
  ∀ s v H', Go st c H H' → SmAt (Fr H H') s v → chkSt S s = none → cntS s ≤ cS n → hgtS s ≤ n + 1 → lpsS s ≤ n → Q v H'
def spBodyD (n : Nat) : Sp := fun vs H Q _ => ∃ (st c nm sh : Addr) (ns : List Bool) (S : Sc), Given vs n H st c nm sh ns S ∧
  ∀ b v H', Go st c H H' → BdV (Fr H H') b v → chkB S b = none → cnt b ≤ 2 * cS n → hgt b ≤ n + 2 → lps b ≤ n → Q v H'
def spBodyP : Nat → Sp
  | 0 => fun _ _ _ _ => False
  | n + 1 => spBodyD n
section
variable {P : Program} {w : World} {K : PySem.W.Frag} {mg : Str → Option Value} {base : Heap} {D : Defs}
theorem sc__law_statement : FnScope ["state", "shape", "names", "writes", "nested", "width", "variables", "kind", "words", "body", "k"] ["state", "shape", "names", "writes", "nested"] (defScope s__law_statement) := ⟨rfl, rfl, rfl, by decide +kernel, rfl, by decide +kernel, by decide +kernel⟩
theorem ok_stmtD {n : Nat} (O : Ok P K mg D) (G__law_body : FnOk P w K mg base CX0 (4 + 2 * n) D.f_law_body D.d_law_body ["state", "shape", "names", "writes", "nested"] (spBodyP n)) :
    FnOk P w K mg base CX0 (5 + 2 * n) D.f_law_statement D.d_law_statement ["state", "shape", "names", "writes", "nested"] (spStmtD n) := by
  have G__law_draw : FnOk P w K mg base CX0 1 D.f_law_draw D.d_law_draw ["state", "many"] spDraw := ok_draw O
  have G__law_expr : FnOk P w K mg base CX0 4 D.f_law_expr D.d_law_expr ["state", "names", "variables", "deep"] (spExpr 3) := ok_expr O 3
  have e5 : 5 + 2 * n = (4 + 2 * n) + 1 := by omega
  rw [e5]
  refine O.F_law_statement.ok sc__law_statement (fun vs H Q E h => ?_) (fun cdv A outer s H vs Q E hr h => ?_)
  · obtain ⟨st, c, nm, sh, ns, S, G, _⟩ := h
    rw [G.vs]
    rfl
  obtain ⟨st, c, nm, sh, ns, S, Gv, q⟩ := h
  have hvs := Gv.vs
  subst hvs
  have nd := sc__law_statement.nd
  have bk : ∀ own scope, blkC ["state", "shape", "names", "writes", "nested", "width", "variables", "kind", "words", "body", "k"] (defScope s__law_statement) scope own = true → BlkOk ["state", "shape", "names", "writes", "nested", "width", "variables", "kind", "words", "body", "k"] (defScope s__law_statement) scope own := fun own scope h => blkOk_by h
  refine ⟨_, (pss_cons (ps_asg (pv 1) (pg_lst rfl (pgs_cons (pg_name (i := 5) nd rfl (Or.inl rfl)) (pgs_cons (pg_name (i := 6) nd rfl (Or.inr rfl)) pgs_nil))))
    (pss_cons (ps_set (i := 7) nd rfl (Or.inl rfl) (pe_call G__law_draw (hr.mono (by omega)) rfl O.m_law_draw O.F_law_draw.kp O.b_law_draw .nil pass0 (pa_cons (pv 0) (pa_cons pe_int pa_nil))))
    (C8.pss_cut (ps_if (PW.pt (pw_and (pt_cmpR op_lt (pv 7) pe_int (nomark _)) (pw_and1 (pt_val (pv 3))))) (pss_cons (ps_setLc (i := 8) (own := [("k", 10)]) (g := gName 10) (by rfl) nd rfl rfl (sw_true rfl rfl rfl (by decide +kernel)) (pi_range1 (by rfl) O.zrange (pa_cons (pv 5) pa_nil)) (bk [("k", 10)] _ (by decide +kernel)) (fun _ _ _ _ _ => (pg_name (i := 10) nd rfl (Or.inl rfl))) (fun _ _ _ _ _ => pts_nil) (fun _ _ _ _ _ => (pe_call G__law_expr (hr.mono (by omega)) rfl O.m_law_expr O.F_law_expr.kp O.b_law_expr .nil pass0 (pa_cons (pv 0) (pa_cons (pv 2) (pa_cons (pv 6) (pa_cons pe_int pa_nil)))))))
    (pss_one (ps_ret (pe_tup (pa_cons pe_str (pa_cons (pe_call G__law_expr (hr.mono (by omega)) rfl O.m_law_expr O.F_law_expr.kp O.b_law_expr .nil pass0 (pa_cons (pv 0) (pa_cons (pv 2) (pa_cons (pv 6) (pa_cons pe_int pa_nil))))) (pa_cons (pv 8) pa_nil))))))) pss_nil)
    (C8.pss_cut (ps_if (PW.pt (pw_and (pt_cmpR op_eq (pv 7) pe_int (nomark _)) (pw_and1 (pt_val (pv 3))))) (pss_one (ps_ret (pe_tup (pa_cons pe_str pa_nil)))) pss_nil)
    (C8.pss_cut (ps_if (PW.pt (pw_and (pt_cmpR op_eq (pv 7) pe_int (nomark _)) (pw_and (pt_cmpR op_gt (pv 6) pe_int (nomark _)) (pw_and1 (pt_cmpR op_gt (pv 4) pe_int (nomark _)))))) (pss_cons (ps_set (i := 9) nd rfl (Or.inl rfl) (pe_call G__law_body (hr.mono (by omega)) rfl O.m_law_body O.F_law_body.kp O.b_law_body .nil pass0 (pa_cons (pv 0) (pa_cons (pv 1) (pa_cons (pv 2) (pa_cons (pv 3) (pa_cons (pe_op op_sub (pv 4) pe_int) pa_nil)))))))
    (pss_one (ps_ret (pe_tup (pa_cons pe_str (pa_cons (pe_call G__law_draw (hr.mono (by omega)) rfl O.m_law_draw O.F_law_draw.kp O.b_law_draw .nil pass0 (pa_cons (pv 0) (pa_cons (pv 6) pa_nil))) (pa_cons (pe_op op_add pe_int (pe_call G__law_draw (hr.mono (by omega)) rfl O.m_law_draw O.F_law_draw.kp O.b_law_draw .nil pass0 (pa_cons (pv 0) (pa_cons pe_int pa_nil)))) (pa_cons (pv 9) pa_nil)))))))) pss_nil)
    (C8.pss_cut (ps_if (PW.pt (pw_and (pt_cmpR op_lt (pv 7) pe_int (nomark _)) (pw_and1 (pt_cmpR op_gt (pv 6) pe_int (nomark _))))) (pss_one (ps_ret (pe_tup (pa_cons pe_str (pa_cons (pe_call G__law_draw (hr.mono (by omega)) rfl O.m_law_draw O.F_law_draw.kp O.b_law_draw .nil pass0 (pa_cons (pv 0) (pa_cons (pv 6) pa_nil))) (pa_cons (pe_call G__law_expr (hr.mono (by omega)) rfl O.m_law_expr O.F_law_expr.kp O.b_law_expr .nil pass0 (pa_cons (pv 0) (pa_cons (pv 2) (pa_cons (pv 6) (pa_cons pe_int pa_nil))))) pa_nil)))))) pss_nil)
    (pss_cons (ps_set (i := 9) nd rfl (Or.inl rfl) (pe_lst pa_nil))
    (C8.pss_cut (ps_if (pt_cmpR op_gt (pv 4) pe_int (nomark _)) (pss_one (ps_set (i := 9) nd rfl (Or.inl rfl) (pe_call G__law_body (hr.mono (by omega)) rfl O.m_law_body O.F_law_body.kp O.b_law_body .nil pass0 (pa_cons (pv 0) (pa_cons (pv 1) (pa_cons (pv 2) (pa_cons (pv 3) (pa_cons (pe_op op_sub (pv 4) pe_int) pa_nil)))))))) pss_nil)
    (pss_one (ps_ret (pe_tup (pa_cons pe_str (pa_cons (pe_call G__law_expr (hr.mono (by omega)) rfl O.m_law_expr O.F_law_expr.kp O.b_law_expr .nil pass0 (pa_cons (pv 0) (pa_cons (pv 2) (pa_cons (pv 6) (pa_cons pe_int pa_nil))))) (pa_cons (pv 9) (pa_cons (pe_lst pa_nil) pa_nil))))))))))))))), ?_⟩
  refine ⟨_, rfl, sh, _, rfl, SqL.of Gv.hsh, rfl, _, _, rfl, _, _, rfl, rfl, ?_⟩
  refine ⟨_, rfl, st, c, 9, rfl, Gv.sta, by decide, by decide, fun kd H1 k0 k9 g1 => ?_⟩
  obtain ⟨σ0, hσ⟩ : ∃ σ0 : L2.St, σ0 = [some (.ref st), some (.ref sh), some (.ref nm), some (.bl S.writes), some (.int ((n : Nat) : Int)), some (.int S.width), some (.int S.variables), some (.int kd), none, none, none] := ⟨_, rfl⟩
  have hnm1 := g1.kept Gv.hnm Gv.nm1 Gv.nm2
  have hsh1 := g1.kept Gv.hsh Gv.sh1 Gv.sh2
  have w0 := Gv.w0
  have w1 := Gv.w1
  have v0 := Gv.v0
  have v1 := Gv.v1
  have hcS : 1 ≤ cS n := by cases n <;> simp [cS]
  -- a write
  refine ⟨fun σ H' => σ = σ0 ∧ H' = H1, ⟨_, rfl, _, _, rfl, rfl, _, rfl, ite2 (fun c1 => ⟨_, rfl, S.writes, rfl, ite2 (fun hw => ?_) (fun hw => ⟨hσ.symm, rfl⟩)⟩) (fun c1 => iteF ⟨hσ.symm, rfl⟩)⟩, ?_⟩
  · refine ⟨_, rfl, S.width, rfl, by omega, by omega, fun d nd1 => ?_⟩
    obtain ⟨i1, i2, i3⟩ := itr_ok (st := st) (c := c) (n := S.width.toNat) (H0 := H1)
    refine lc_go ExAt exAt_mono (fun e => GoodE ns S.variables e ∧ dep e ≤ 2) g1.st nd1 (n := S.width.toNat) (by omega) i1 i2 i3 ?_ ?_
    · intro i x H2 acc hi hx g2 hacc Nx k
      subst hx
      refine ⟨rfl, yes (iteT ?_)⟩
      refine ⟨_, rfl, _, rfl, _, rfl, st, c, nm, ns, S.variables, 2, rfl, g2.st, Gv.nm1, Gv.nm2, g2.kept hnm1 Gv.nm1 Gv.nm2, Gv.few, v0, v1, by decide, by decide, fun e v H3 g3 he gd dp => ?_⟩
      exact k v H3 e g3 he ⟨gd, by omega⟩
    intro H2 zs acc g2 hacc he hl hz
    have hacl := Each.len he
    have g02 := g1.trans g2
    refine ⟨_, rfl, _, rfl, _, rfl, st, c, nm, ns, S.variables, 2, rfl, g2.st, Gv.nm1, Gv.nm2, g2.kept hnm1 Gv.nm1 Gv.nm2, Gv.few, v0, v1, by decide, by decide, fun e v H3 g3 hx gd dp => ?_⟩
    refine ⟨_, rfl, (by show 3 ≤ sizeLine; decide), fun p np => ?_⟩
    have g03 := g02.trans g3
    have g04 := g03.mk1 np (.tup [.str "write", v, .ref d])
    obtain ⟨d1, d2⟩ := g1.st.free nd1
    have hd0 : H d = none := g1.dom d nd1
    have gn := Go.new g03.st np (.tup [.str "write", v, .ref d])
    have hacc3 := g3.kept hacc d1 d2
    have hacc4 := gn.1.kept hacc3 d1 d2
    have f1 : Same (Fr (upd H1 d (.lst [])) H2) (Fr H (upd H3 p (.tup [.str "write", v, .ref d]))) := fr_up (stAt_upd g1.st d1 d2) (fun b e => by
      by_cases hb : b = d
      · rw [hb, upd_same] at e; cases e
      · rw [upd_ne hb] at e
        exact g1.dom b e) (g3.trans gn.1)
    refine q (.write e zs) _ _ g04 ?_ ?_ ?_ ?_ ?_
    · unfold SmAt
      exact ⟨p, v, d, acc, rfl, fr_of (g03.dom p np) upd_same, hx.same (fr_up g02.st g02.dom gn.1), fr_of hd0 hacc4, (exsEach.mpr he).same f1⟩
    · show fst (if S.writes = true then none else some _) (fst (chkE S e) (fst (if (zs.length : Int) = S.width then none else some _) (chkEs S zs))) = none
      rw [if_pos hw, good_E Gv.args gd (by omega), if_pos (by omega), good_Es Gv.args fun z h => ⟨(hz z h).1, by have := (hz z h).2; omega⟩]
      rfl
    · rw [cntS]; exact hcS
      all_goals (intros; contradiction)
    · rw [hgtS]; omega
      all_goals (intros; contradiction)
    · rw [lpsS]; omega
      all_goals (intros; contradiction)
  rintro σ H' ⟨rfl, rfl⟩
  subst hσ
  -- a barrier
  refine ⟨fun σ H'' => σ = [some (.ref st), some (.ref sh), some (.ref nm), some (.bl S.writes), some (.int ((n : Nat) : Int)), some (.int S.width), some (.int S.variables), some (.int kd), none, none, none] ∧ H'' = H', ⟨_, rfl, rfl, _, rfl, ite2 (fun c1 => ⟨_, rfl, S.writes, rfl, ite2 (fun hw => ?_) (fun hw => ⟨rfl, rfl⟩)⟩) (fun c1 => iteF ⟨rfl, rfl⟩)⟩, ?_⟩
  · refine ⟨(by show 1 ≤ sizeLine; decide), fun p np => ?_⟩
    have g04 := g1.mk1 np (.tup [.str "barrier"])
    refine q .barrier _ _ g04 ?_ ?_ ?_ ?_ ?_
    · unfold SmAt
      exact ⟨p, rfl, fr_of (g1.dom p np) upd_same⟩
    · show (if S.writes = true then none else some _) = none
      rw [if_pos hw]
    · rw [cntS]; exact hcS
      all_goals (intros; contradiction)
    · rw [hgtS]; omega
      all_goals (intros; contradiction)
    · rw [lpsS]; omega
      all_goals (intros; contradiction)
  rintro σ H'' ⟨rfl, rfl⟩
  -- a loop
  have gcast : ∀ m : Nat, n = m + 1 → [V.ref st, V.ref sh, V.ref nm, V.bl S.writes, V.int (((n : Nat) : Int) - 1)] = [V.ref st, V.ref sh, V.ref nm, V.bl S.writes, V.int ((m : Nat) : Int)] := fun m hm => by
    have : ((n : Nat) : Int) - 1 = ((m : Nat) : Int) := by omega
    rw [this]
  refine ⟨fun σ H' => σ = [some (.ref st), some (.ref sh), some (.ref nm), some (.bl S.writes), some (.int ((n : Nat) : Int)), some (.int S.width), some (.int S.variables), some (.int kd), none, none, none] ∧ H' = H'',
    ⟨_, rfl, rfl, _, rfl, ite2 (fun c1 => ⟨_, rfl, _, _, rfl, rfl, _, rfl, ite2 (fun c2 => ⟨_, rfl, _, _, rfl, rfl, _, rfl, ite2 (fun c3 => ?_) (fun c3 => ⟨rfl, rfl⟩)⟩) (fun c2 => iteF ⟨rfl, rfl⟩)⟩) (fun c1 => iteF ⟨rfl, rfl⟩)⟩, ?_⟩
  · have c2' : 0 < S.variables := of_decide_eq_true c2
    have c3' : (0 : Int) < ((n : Nat) : Int) := of_decide_eq_true c3
    refine ⟨_, rfl, _, rfl, _, rfl, _, rfl, _, rfl, _, _, rfl, rfl, ?_⟩
    cases n with
    | zero => exact absurd c3' (by decide)
    | succ m =>
      refine ⟨st, c, nm, sh, ns, S, (Gv.go g1 m).cast (gcast m rfl), fun b v H2 g2 hb hc hcnt hh hl => ?_⟩
      have g02 := g1.trans g2
      refine ⟨_, rfl, _, rfl, st, c, _, rfl, g02.st, c2', by omega, fun r H3 r0 r1 g3 => ?_⟩
      have g03 := g02.trans g3
      refine ⟨_, rfl, st, c, _, rfl, g03.st, by decide, by decide, fun r2 H4 r20 r21 g4 => ?_⟩
      have g04 := g03.trans g4
      refine ⟨_, _, rfl, rfl, _, rfl, (by show 4 ≤ sizeLine; decide), fun p np => ?_⟩
      obtain ⟨pb, xs, rfl, hpb, hxs⟩ := hb
      have gn := Go.new g04.st np (.tup [.str "loop", .int r, .int (1 + r2), .ref pb])
      have f1 := fr_up (H := H) g1.st g1.dom ((g3.trans g4).trans gn.1) (H2 := H2)
      refine q (.loop r (1 + r2) b) _ _ (g04.trans gn.1) ?_ ?_ ?_ ?_ ?_
      · unfold SmAt
        exact ⟨p, pb, xs, rfl, fr_of (g04.dom p np) upd_same, f1 _ _ hpb, hxs.same f1⟩
      · rw [chkSt_eq]
        show fst (fst (if 0 ≤ r ∧ r < S.variables then none else some _) (if 1 ≤ 1 + r2 ∧ 1 + r2 ≤ 8 then none else some _)) (fst (chkB S b) none) = none
        rw [if_pos ⟨r0, r1⟩, if_pos ⟨by omega, by omega⟩, hc]
        rfl
      · rw [cntS, cS]; omega
      · rw [hgtS]; omega
      · rw [lpsS]; omega
  rintro σ H3 ⟨rfl, rfl⟩
  -- a set
  refine ⟨fun σ H' => σ = [some (.ref st), some (.ref sh), some (.ref nm), some (.bl S.writes), some (.int ((n : Nat) : Int)), some (.int S.width), some (.int S.variables), some (.int kd), none, none, none] ∧ H' = H3,
    ⟨_, rfl, _, _, rfl, rfl, _, rfl, ite2 (fun c1 => ⟨_, rfl, _, _, rfl, rfl, _, rfl, ite2 (fun c2 => ?_) (fun c2 => ⟨rfl, rfl⟩)⟩) (fun c1 => iteF ⟨rfl, rfl⟩)⟩, ?_⟩
  · have c2' : 0 < S.variables := of_decide_eq_true c2
    refine ⟨_, rfl, _, rfl, st, c, _, rfl, g1.st, c2', by omega, fun r H4 r0 r1 g4 => ?_⟩
    have g04 := g1.trans g4
    refine ⟨_, rfl, _, rfl, _, rfl, st, c, nm, ns, S.variables, 3, rfl, g04.st, Gv.nm1, Gv.nm2, g04.kept Gv.hnm Gv.nm1 Gv.nm2, Gv.few, v0, v1, by decide, by decide, fun e v H5 g5 hx gd dp => ?_⟩
    refine ⟨(by show 3 ≤ sizeLine; decide), fun p np => ?_⟩
    have g05 := g04.trans g5
    have gn := Go.new g05.st np (.tup [.str "set", .int r, v])
    refine q (.set r e) _ _ (g05.trans gn.1) ?_ ?_ ?_ ?_ ?_
    · unfold SmAt
      exact ⟨p, v, rfl, fr_of (g05.dom p np) upd_same, hx.same (fr_up g04.st g04.dom gn.1)⟩
    · show fst (if 0 ≤ r ∧ r < S.variables then none else some _) (chkE S e) = none
      rw [if_pos ⟨r0, r1⟩, good_E Gv.args gd (by omega)]
      rfl
    · rw [cntS]; exact hcS
      all_goals (intros; contradiction)
    · rw [hgtS]; omega
      all_goals (intros; contradiction)
    · rw [lpsS]; omega
      all_goals (intros; contradiction)
  rintro σ H4 ⟨rfl, rfl⟩
  -- an if
  refine ⟨(by show 0 ≤ sizeLine; decide), fun p0 np0 => ?_⟩
  have gp := Go.new g1.st np0 (.lst [])
  have g0p := g1.trans gp.1
  refine ⟨fun σ H' => ∃ (b : List Sm) (v : V), σ = [some (.ref st), some (.ref sh), some (.ref nm), some (.bl S.writes), some (.int ((n : Nat) : Int)), some (.int S.width), some (.int S.variables), some (.int kd), none, some v, none] ∧
    Go st c H H' ∧ BdV (Fr H H') b v ∧ chkB S b = none ∧ 1 + cnt b ≤ cS n ∧ hgt b ≤ n + 1 ∧ lps b ≤ n, ⟨_, rfl, _, _, rfl, rfl, _, rfl, ite2 (fun c1 => ?_) (fun c1 => ?_)⟩, ?_⟩
  · have c1' : (0 : Int) < ((n : Nat) : Int) := of_decide_eq_true c1
    refine ⟨_, rfl, _, rfl, _, rfl, _, rfl, _, rfl, _, _, rfl, rfl, ?_⟩
    cases n with
    | zero => exact absurd c1' (by decide)
    | succ m =>
      refine ⟨st, c, nm, sh, ns, S, (Gv.go g0p m).cast (gcast m rfl), fun b v H2 g2 hb hc hcnt hh hl => ?_⟩
      exact ⟨b, v, rfl, g0p.trans g2, hb.same (fr_dom g0p.dom), hc, by rw [cS]; omega, by omega, by omega⟩
  · refine ⟨[], _, rfl, g0p, BdV.nil (fr_of (g1.dom p0 np0) upd_same), chkB_nil S, ?_, ?_, ?_⟩
    · rw [cnt]; exact hcS
    · rw [hgt]; omega
    · rw [lps]; omega
  rintro σ H5 ⟨b, v, rfl, g5, hb, hc, hcnt, hh, hl⟩
  refine ⟨_, rfl, _, rfl, _, rfl, st, c, nm, ns, S.variables, 2, rfl, g5.st, Gv.nm1, Gv.nm2, g5.kept Gv.hnm Gv.nm1 Gv.nm2, Gv.few, v0, v1, by decide, by decide, fun e v2 H6 g6 hx gd dp => ?_⟩
  have g06 := g5.trans g6
  refine ⟨_, rfl, (by show 0 ≤ sizeLine; decide), fun pe npe => ⟨(by show 4 ≤ sizeLine; decide), fun p np => ?_⟩⟩
  obtain ⟨pb, xs, rfl, hpb, hxs⟩ := hb
  have ge := Go.new g06.st npe (.lst [])
  have gn := Go.new ge.1.st np (.tup [.str "if", v2, .ref pb, .ref pe])
  have gen := ge.1.trans gn.1
  have f1 := fr_go Gv.sta (g6.trans gen)
  have f2 := fr_up (H := H) g5.st g5.dom gen (H2 := H6)
  have g07 := g06.trans ge.1
  refine q (.ite e b []) _ _ (g06.trans gen) ?_ ?_ ?_ ?_ ?_
  · unfold SmAt
    refine ⟨p, v2, pb, xs, pe, [], rfl, fr_of (g07.dom p np) upd_same, hx.same f2, f1 _ _ hpb, hxs.same f1, fr_of (g06.dom pe npe) ?_, SmsAt.nil⟩
    rw [upd_ne (ne_of_none upd_same np)]
    exact upd_same
  · rw [chkSt_eq]
    show fst (chkE S e) (fst (chkB S b) (fst (chkB S []) none)) = none
    rw [good_E Gv.args gd (by omega), hc, chkB_nil]
    rfl
  · rw [cntS, cnt]; omega
  · rw [hgtS]
    have : hgt [] = 1 := by rw [hgt]
    omega
  · rw [lpsS]
    have : lps [] = 0 := by rw [lps]
    omega
end
end S2
namespace S2
open PySem L2
theorem smsEach {H : Hp} : ∀ {es : List Sm} {xs : List V}, SmsAt H es xs ↔ Each SmAt H es xs
  | [], [] => ⟨fun _ => trivial, fun _ => SmsAt.nil⟩
  | _ :: _, _ :: _ => ⟨fun h => ⟨h.un.1, smsEach.mp h.un.2⟩, fun h => .cons h.1 (smsEach.mpr h.2)⟩
  | [], _ :: _ => ⟨fun h => by unfold SmsAt at h; exact h.elim, fun h => h.elim⟩
  | _ :: _, [] => ⟨fun h => by unfold SmsAt at h; exact h.elim, fun h => h.elim⟩
theorem smAt_mono : ∀ (H H' : Hp) (x : Sm) (v : V), Same H H' → SmAt H x v → SmAt H' x v := fun _ _ _ _ s h => h.same s
theorem chkB_all {S : Sc} : ∀ {b : List Sm}, (∀ s ∈ b, chkSt S s = none) → chkB S b = none
  | [], _ => chkB_nil S
  | s :: r, h => by
    rw [chkB_cons, h s List.mem_cons_self]
    exact chkB_all fun x hx => h x (List.mem_cons_of_mem _ hx)
theorem cnt_all {k : Nat} : ∀ {b : List Sm}, (∀ s ∈ b, cntS s ≤ k) → cnt b ≤ b.length * k
  | [], _ => by rw [cnt]; exact Nat.zero_le _
  | s :: r, h => by
    have h1 := h s List.mem_cons_self
    have h2 := cnt_all (k := k) (b := r) fun x hx => h x (List.mem_cons_of_mem _ hx)
    rw [cnt, List.length_cons, Nat.succ_mul]
    omega
theorem hgt_all {k : Nat} : ∀ {b : List Sm}, (∀ s ∈ b, hgtS s ≤ k) → hgt b ≤ k + 1
  | [], _ => by rw [hgt]; omega
  | s :: r, h => by
    have h1 := h s List.mem_cons_self
    have h2 := hgt_all (k := k) (b := r) fun x hx => h x (List.mem_cons_of_mem _ hx)
    rw [hgt]
    omega
theorem lps_all {k : Nat} : ∀ {b : List Sm}, (∀ s ∈ b, lpsS s ≤ k) → lps b ≤ k
  | [], _ => by rw [lps]; omega
  | s :: r, h => by
    have h1 := h s List.mem_cons_self
    have h2 := lps_all (k := k) (b := r) fun x hx => h x (List.mem_cons_of_mem _ hx)
    rw [lps]
    omega
theorem chkB_app (S : Sc) : ∀ a b : List Sm, chkB S (a ++ b) = fst (chkB S a) (chkB S b)
  | [], b => by rw [chkB_nil]; rfl
  | s :: r, b => by rw [List.cons_append, chkB_cons, chkB_cons, chkB_app S r b, fst_assoc]
theorem cnt_app : ∀ a b : List Sm, cnt (a ++ b) = cnt a + cnt b
  | [], b => by rw [cnt, List.nil_append, Nat.zero_add]
  | s :: r, b => by rw [List.cons_append, cnt, cnt, cnt_app r b, Nat.add_assoc]
theorem hgt_app : ∀ a b : List Sm, hgt (a ++ b) = max (hgt a) (hgt b)
  | [], b => by
    have := hgt_pos b
    rw [List.nil_append]
    have : hgt [] = 1 := by rw [hgt]
    omega
  | s :: r, b => by rw [List.cons_append, hgt, hgt, hgt_app r b]; omega
theorem lps_app : ∀ a b : List Sm, lps (a ++ b) = max (lps a) (lps b)
  | [], b => by
    rw [List.nil_append]
    have : lps [] = 0 := by rw [lps]
    omega
  | s :: r, b => by rw [List.cons_append, lps, lps, lps_app r b]; omega
/-! ### within the limits a body fits -/
theorem lpsS_inner (s : Sm) (n : Nat) (b : List Sm) (h : b ∈ inner s) : around s n + lps b ≤ n + lpsS s := by
  cases s with
  | ite e x y =>
    rcases List.mem_cons.mp h with rfl | h
    · rw [lpsS]; show n + _ ≤ _; omega
    · rcases List.mem_cons.mp h with rfl | h
      · rw [lpsS]; show n + _ ≤ _; omega
      · cases h
  | loop i m x =>
    rcases List.mem_cons.mp h with rfl | h
    · rw [lpsS]; show n + 1 + _ ≤ _; omega
    · cases h
  | set i e => cases h
  | write e ws => cases h
  | barrier => cases h
theorem lps_mem : ∀ (b : List Sm) (s : Sm), s ∈ b → lpsS s ≤ lps b
  | [], _, h => by cases h
  | x :: r, s, h => by
    rw [lps]
    rcases List.mem_cons.mp h with rfl | h
    · omega
    · have := lps_mem r s h
      omega
theorem fitsL_ok : ∀ (k many : Nat) (L : List (List Sm × Nat)), many + cntL L ≤ 60 → (∀ p ∈ L, hgt p.1 ≤ k ∧ p.2 + lps p.1 ≤ 2) → fitsL k many L = true
  | 0, many, L, _, h => by
    cases L with
    | nil => rfl
    | cons p r =>
      have := (h p List.mem_cons_self).1
      have := hgt_pos p.1
      omega
  | k + 1, many, L, hc, h => by
    have h1 := cntL_below L
    have h2 : L.any (fun p => decide (p.2 > 2)) = false := by
      rw [List.any_eq_false]
      intro p hp
      have := (h p hp).2
      simp
      omega
    rw [fitsL, if_neg (fun z => z.elim (fun y => by omega) (fun y => by rw [h2] at y; cases y))]
    refine fitsL_ok k _ _ (by omega) fun p hp => ⟨hgtL_below k L (fun x hx => (h x hx).1) p hp, ?_⟩
    rw [below_flat] at hp
    obtain ⟨x, hx, hp⟩ := List.mem_flatMap.mp hp
    obtain ⟨s, hs, hp⟩ := List.mem_flatMap.mp hp
    unfold belowS at hp
    obtain ⟨b, hb, rfl⟩ := List.mem_map.mp hp
    have e1 := lpsS_inner s x.2 b hb
    have e2 := lps_mem x.1 s hs
    have e3 := (h x hx).2
    show around s x.2 + lps b ≤ 2
    omega
theorem fits_ok {b : List Sm} (h1 : cnt b ≤ 60) (h2 : hgt b ≤ 4) (h3 : lps b ≤ 2) : fits b = true :=
  fitsL_ok 4 0 [(b, 0)] (by rw [cntL, cntL]; omega) fun p hp => by
    rw [List.mem_singleton.mp hp]
    exact ⟨h2, by show 0 + lps b ≤ 2; omega⟩
section
variable {P : Program} {w : World} {K : PySem.W.Frag} {mg : Str → Option Value} {base : Heap} {D : Defs}
theorem sc__law_body : FnScope ["state", "shape", "names", "writes", "nested", "k"] ["state", "shape", "names", "writes", "nested"] (defScope s__law_body) := ⟨rfl, rfl, rfl, by decide +kernel, rfl, by decide +kernel, by decide +kernel⟩
theorem ok_bodyD {n : Nat} (O : Ok P K mg D) (G__law_statement : FnOk P w K mg base CX0 (5 + 2 * n) D.f_law_statement D.d_law_statement ["state", "shape", "names", "writes", "nested"] (spStmtD n)) :
    FnOk P w K mg base CX0 (6 + 2 * n) D.f_law_body D.d_law_body ["state", "shape", "names", "writes", "nested"] (spBodyD n) := by
  have G__law_draw : FnOk P w K mg base CX0 1 D.f_law_draw D.d_law_draw ["state", "many"] spDraw := ok_draw O
  have e5 : 6 + 2 * n = (5 + 2 * n) + 1 := by omega
  rw [e5]
  refine O.F_law_body.ok sc__law_body (fun vs H Q E h => ?_) (fun cdv A outer s H vs Q E hr h => ?_)
  · obtain ⟨st, c, nm, sh, ns, S, G, _⟩ := h
    rw [G.vs]
    rfl
  obtain ⟨st, c, nm, sh, ns, S, Gv, q⟩ := h
  have hvs := Gv.vs
  subst hvs
  have nd := sc__law_body.nd
  have bk : ∀ own scope, blkC ["state", "shape", "names", "writes", "nested", "k"] (defScope s__law_body) scope own = true → BlkOk ["state", "shape", "names", "writes", "nested", "k"] (defScope s__law_body) scope own := fun own scope h => blkOk_by h
  refine ⟨_, (pss_one (ps_ret (pe_lc (own := [("k", 5)]) (g := gName 5) (by rfl) nd (pi_range1 (by rfl) O.zrange (pa_cons (pe_call G__law_draw (hr.mono (by omega)) rfl O.m_law_draw O.F_law_draw.kp O.b_law_draw .nil pass0 (pa_cons (pv 0) (pa_cons pe_int pa_nil))) pa_nil)) (bk [("k", 5)] _ (by decide +kernel)) (fun _ _ _ _ _ => (pg_name (i := 5) nd rfl (Or.inl rfl))) (fun _ _ _ _ _ => pts_nil) (fun _ _ _ _ _ => (pe_call G__law_statement (hr.mono (by omega)) rfl O.m_law_statement O.F_law_statement.kp O.b_law_statement .nil pass0 (pa_cons (pv 0) (pa_cons (pv 1) (pa_cons (pv 2) (pa_cons (pv 3) (pa_cons (pv 4) pa_nil)))))))))), ?_⟩
  refine ⟨_, rfl, st, c, 3, rfl, Gv.sta, by decide, by decide, fun r H1 r0 r3 g1 => ?_⟩
  refine ⟨r, rfl, by omega, by omega, fun d nd1 => ?_⟩
  obtain ⟨i1, i2, i3⟩ := itr_ok (st := st) (c := c) (n := r.toNat) (H0 := H1)
  refine lc_go SmAt smAt_mono (fun s => chkSt S s = none ∧ cntS s ≤ cS n ∧ hgtS s ≤ n + 1 ∧ lpsS s ≤ n) g1.st nd1 (n := r.toNat) (by omega) i1 i2 i3 ?_ ?_
  · intro i x H2 acc hi hx g2 hacc Nx k
    subst hx
    refine ⟨rfl, yes (iteT ?_)⟩
    refine ⟨_, rfl, _, rfl, _, rfl, _, rfl, _, rfl, st, c, nm, sh, ns, S, Gv.go (g1.trans g2) n, fun s v H3 g3 hs h1 h2 h3 h4 => ?_⟩
    exact k v H3 s g3 hs ⟨h1, h2, h3, h4⟩
  intro H2 zs acc g2 hacc he hl hz
  have g02 := g1.trans g2
  obtain ⟨d1, d2⟩ := g1.st.free nd1
  have f1 : Same (Fr (upd H1 d (.lst [])) H2) (Fr H H2) := fr_dom fun b e => by
    by_cases hb : b = d
    · rw [hb, upd_same] at e; cases e
    · rw [upd_ne hb] at e
      exact g1.dom b e
  refine q zs _ H2 g02 ⟨d, acc, rfl, fr_of (g1.dom d nd1) hacc, (smsEach.mpr he).same f1⟩ (chkB_all fun s h => (hz s h).1) ?_ (hgt_all fun s h => (hz s h).2.2.1) (lps_all fun s h => (hz s h).2.2.2)
  have h1 := cnt_all (k := cS n) (b := zs) fun s h => (hz s h).2.1
  have h2 : zs.length * cS n ≤ 2 * cS n := Nat.mul_le_mul_right _ (by omega)
  omega
theorem ok_chain (O : Ok P K mg D) : ∀ n, FnOk P w K mg base CX0 (4 + 2 * n) D.f_law_body D.d_law_body ["state", "shape", "names", "writes", "nested"] (spBodyP n)
  | 0 => ⟨fun vs H Q E h => h.elim, fun A outer s H args us vs Q E _ _ _ _ h => h.elim⟩
  | n + 1 => by
    have e : 4 + 2 * (n + 1) = 6 + 2 * n := by omega
    rw [e]
    exact ok_bodyD O (ok_stmtD O (ok_chain O n))
end
end S2
namespace S2
open PySem L2
/-- a drawn body, new since H -/
def GB (k : Nat) (H H' : Hp) (S : Sc) (v : V) : Prop := ∃ b, BdV (Fr H H') b v ∧ chkB S b = none ∧ cnt b ≤ k ∧ hgt b ≤ 3 ∧ lps b ≤ 1
theorem GB.go {k : Nat} {st c : Addr} {H H' H2 : Hp} {S : Sc} {v : V} (h : GB k H H' S v) (T : StAt H st c) (g : Go st c H' H2) : GB k H H2 S v := by
  obtain ⟨b, h1, h2⟩ := h
  exact ⟨b, h1.same (fr_go T g), h2⟩
theorem GB.le {k m : Nat} {H H' : Hp} {S : Sc} {v : V} (h : GB k H H' S v) (l : k ≤ m) : GB m H H' S v := by
  obtain ⟨b, h1, h2, h3, h4⟩ := h
  exact ⟨b, h1, h2, Nat.le_trans h3 l, h4⟩
theorem bar_list {st c t l : Addr} {H H1 : Hp} {S : Sc} (g : Go st c H H1) (nt : H1 t = none) (nl : upd H1 t (.tup [.str "barrier"]) l = none) (hw : S.writes = true) :
    GB 1 H (upd (upd H1 t (.tup [.str "barrier"])) l (.lst [.ref t])) S (.ref l) ∧ Go st c H1 (upd (upd H1 t (.tup [.str "barrier"])) l (.lst [.ref t])) := by
  have g1 := Go.new g.st nt (.tup [.str "barrier"])
  have g2 := Go.new g1.1.st nl (.lst [.ref t])
  refine ⟨⟨[.barrier], ⟨l, [.ref t], rfl, fr_of ((g.trans g1.1).dom l nl) upd_same, .cons ?_ .nil⟩, ?_, ?_, ?_, ?_⟩, g1.1.trans g2.1⟩
  · unfold SmAt
    exact ⟨t, rfl, fr_of (g.dom t nt) (by rw [upd_ne (ne_of_none upd_same nl)]; exact upd_same)⟩
  · rw [chkB_cons, chkB_nil, fst_none]
    show (if S.writes = true then none else some _) = none
    rw [if_pos hw]
  · rw [cnt, cnt, cntS]; exact Nat.le_refl _
    all_goals (intros; contradiction)
  · rw [hgt, hgt, hgtS]; decide
    all_goals (intros; contradiction)
  · rw [lps, lps, lpsS]; decide
    all_goals (intros; contradiction)
theorem GB.app {j k : Nat} {st c : Addr} {H H' : Hp} {S : Sc} {v u : V} (T : StAt H st c) (g : Go st c H H') (hv : GB j H H' S v) (hu : GB k H H' S u) : ∃ p q xs ys, v = .ref p ∧ u = .ref q ∧ H' p = some (.lst xs) ∧ H' q = some (.lst ys) ∧ xs.length + ys.length ≤ j + k ∧
    ∀ r, H' r = none → GB (j + k) H (upd H' r (.lst (xs ++ ys))) S (.ref r) := by
  obtain ⟨a, ⟨p, xs, rfl, hp, hx⟩, a1, a2, a3, a4⟩ := hv
  obtain ⟨b, ⟨q, ys, rfl, hq, hy⟩, b1, b2, b3, b4⟩ := hu
  have l1 := hx.len
  have l2 := hy.len
  have l3 := len_cnt a
  have l4 := len_cnt b
  refine ⟨p, q, xs, ys, rfl, rfl, (fr_get hp).2, (fr_get hq).2, by omega, fun r nr => ?_⟩
  have gn := Go.new g.st nr (.lst (xs ++ ys))
  have f := fr_go T gn.1 (H1 := H')
  refine ⟨a ++ b, ⟨r, _, rfl, fr_of (g.dom r nr) upd_same, (hx.same f).app (hy.same f)⟩, ?_, ?_, ?_, ?_⟩
  · rw [chkB_app, a1, b1]; rfl
  · rw [cnt_app]; omega
  · rw [hgt_app]; omega
  · rw [lps_app]; omega
structure Dr (s : Stv) : Prop where
  n1 : 1 ≤ s.sectors ∧ s.sectors ≤ 3
  n2 : 1 ≤ s.width ∧ s.width ≤ 2
  n3 : 1 ≤ s.keys ∧ s.keys ≤ 2
  n4 : 0 ≤ s.variables ∧ s.variables ≤ 2
  b1 : chkB (scPut s) s.put = none ∧ cnt s.put ≤ 10 ∧ hgt s.put ≤ 3 ∧ lps s.put ≤ 1
  b2 : chkB (scNone s) s.sync = none ∧ cnt s.sync ≤ 10 ∧ hgt s.sync ≤ 3 ∧ lps s.sync ≤ 1
  b3 : chkB (scNone s) s.recover = none ∧ cnt s.recover ≤ 10 ∧ hgt s.recover ≤ 3 ∧ lps s.recover ≤ 1
  b4 : chkB (scGet s) s.gb = none ∧ cnt s.gb ≤ 10 ∧ hgt s.gb ≤ 3 ∧ lps s.gb ≤ 1
  e4 : chkE (scGet s) s.ge = none
theorem body_ok {S : Sc} {b : List Sm} (h : chkB S b = none) (h1 : cnt b ≤ 60) (h2 : hgt b ≤ 4) (h3 : lps b ≤ 2) : chkBody S b = none := by
  unfold chkBody
  rw [fits_ok h1 h2 h3, if_pos rfl, h]
  rfl
theorem Dr.chk {s : Stv} (h : Dr s) : chk s = none := by
  unfold S2.chk rng
  rw [if_pos ⟨h.n1.1, by have := h.n1.2; omega⟩, if_pos ⟨h.n2.1, by have := h.n2.2; omega⟩, if_pos ⟨h.n3.1, by have := h.n3.2; omega⟩, if_pos ⟨h.n4.1, by have := h.n4.2; omega⟩]
  have e1 := body_ok h.b1.1 (by have := h.b1.2; omega) (by have := h.b1.2; omega) (by have := h.b1.2; omega)
  have e2 := body_ok h.b2.1 (by have := h.b2.2; omega) (by have := h.b2.2; omega) (by have := h.b2.2; omega)
  have e3 := body_ok h.b3.1 (by have := h.b3.2; omega) (by have := h.b3.2; omega) (by have := h.b3.2; omega)
  have e4 := body_ok h.b4.1 (by have := h.b4.2; omega) (by have := h.b4.2; omega) (by have := h.b4.2; omega)
  rw [e1, e2, e3, e4, h.e4]
  rfl
theorem Dr.few {s : Stv} (h : Dr s) : few s := ⟨by have := h.b1.2; omega, by have := h.b2.2; omega, by have := h.b3.2; omega, by have := h.b4.2; omega⟩
theorem rep_at {H : Hp} {e : Ex} {x : V} (h : ExAt H e x) : ∀ k : Nat, ExsAt H (List.replicate k e) (List.replicate k [x]).flatten
  | 0 => trivial
  | k + 1 => by
    rw [List.replicate_succ, List.replicate_succ, List.flatten_cons]
    exact ⟨h, rep_at h k⟩
theorem rep_len {x : V} : ∀ k : Nat, (List.replicate k [x]).flatten.length = k
  | 0 => rfl
  | k + 1 => by rw [List.replicate_succ, List.flatten_cons, List.length_append, rep_len k, List.length_singleton]; omega
/-- a drawn get -/
def GG (H H' : Hp) (S : Sc) (v : V) : Prop := ∃ g x y e, v = .ref g ∧ Fr H H' g = some (.tup [x, y]) ∧ GB 10 H H' S x ∧ ExAt (Fr H H') e y ∧ chkE S e = none
theorem GG.go {st c : Addr} {H H' H2 : Hp} {S : Sc} {v : V} (h : GG H H' S v) (T : StAt H st c) (g : Go st c H' H2) : GG H H2 S v := by
  obtain ⟨p, x, y, e, h1, h2, h3, h4, h5⟩ := h
  exact ⟨p, x, y, e, h1, fr_go T g _ _ h2, h3.go T g, h4.same (fr_go T g), h5⟩
def spStoreD : Sp := fun vs H Q _ => ∃ (st c : Addr), vs = [.ref st] ∧ StAt H st c ∧ ∀ s v H', Go st c H H' → StoreV (Fr H H') s v → Dr s → Q v H'
section
variable {P : Program} {w : World} {K : PySem.W.Frag} {mg : Str → Option Value} {base : Heap} {D : Defs}
theorem sc__law_store : FnScope ["state", "sectors", "width", "keys", "variables", "shape", "put", "sync", "recover", "get"] ["state"] (defScope s__law_store) := ⟨rfl, rfl, rfl, by decide +kernel, rfl, by decide +kernel, by decide +kernel⟩
theorem ok_store (O : Ok P K mg D) : FnOk P w K mg base CX0 9 D.f_law_store D.d_law_store ["state"] spStoreD := by
  have G__law_draw : FnOk P w K mg base CX0 1 D.f_law_draw D.d_law_draw ["state", "many"] spDraw := ok_draw O
  have G__law_expr : FnOk P w K mg base CX0 4 D.f_law_expr D.d_law_expr ["state", "names", "variables", "deep"] (spExpr 3) := ok_expr O 3
  have G__law_body : FnOk P w K mg base CX0 8 D.f_law_body D.d_law_body ["state", "shape", "names", "writes", "nested"] (spBodyD 1) := ok_chain O 2
  refine O.F_law_store.ok sc__law_store (fun vs H Q E h => ?_) (fun cdv A outer s H vs Q E hr h => ?_)
  · obtain ⟨st, c, rfl, _⟩ := h
    rfl
  obtain ⟨st, c, rfl, T, q⟩ := h
  have nd := sc__law_store.nd
  have bk : ∀ own scope, blkC ["state", "sectors", "width", "keys", "variables", "shape", "put", "sync", "recover", "get"] (defScope s__law_store) scope own = true → BlkOk ["state", "sectors", "width", "keys", "variables", "shape", "put", "sync", "recover", "get"] (defScope s__law_store) scope own := fun own scope h => blkOk_by h
  refine ⟨_, (pss_cons (ps_set (i := 1) nd rfl (Or.inl rfl) (pe_op op_add pe_int (pe_call G__law_draw (hr.mono (by omega)) rfl O.m_law_draw O.F_law_draw.kp O.b_law_draw .nil pass0 (pa_cons (pv 0) (pa_cons pe_int pa_nil)))))
    (pss_cons (ps_set (i := 2) nd rfl (Or.inl rfl) (pe_op op_add pe_int (pe_call G__law_draw (hr.mono (by omega)) rfl O.m_law_draw O.F_law_draw.kp O.b_law_draw .nil pass0 (pa_cons (pv 0) (pa_cons (pe_ix ix_list (pe_lst (pa_cons pe_int (pa_cons pe_int pa_nil))) (pe_op op_fdiv (pv 1) pe_int) (fun _ _ => rfl)) pa_nil)))))
    (pss_cons (ps_set (i := 3) nd rfl (Or.inl rfl) (pe_op op_add pe_int (pe_call G__law_draw (hr.mono (by omega)) rfl O.m_law_draw O.F_law_draw.kp O.b_law_draw .nil pass0 (pa_cons (pv 0) (pa_cons pe_int pa_nil)))))
    (pss_cons (ps_set (i := 4) nd rfl (Or.inl rfl) (pe_call G__law_draw (hr.mono (by omega)) rfl O.m_law_draw O.F_law_draw.kp O.b_law_draw .nil pass0 (pa_cons (pv 0) (pa_cons pe_int pa_nil))))
    (pss_cons (ps_set (i := 5) nd rfl (Or.inl rfl) (pe_lst (pa_cons (pv 2) (pa_cons (pv 4) pa_nil))))
    (pss_cons (ps_set (i := 6) nd rfl (Or.inl rfl) (pe_call G__law_body (hr.mono (by omega)) rfl O.m_law_body O.F_law_body.kp O.b_law_body .nil pass0 (pa_cons (pv 0) (pa_cons (pv 5) (pa_cons (pe_lst (pa_cons pe_str (pa_cons pe_str pa_nil))) (pa_cons pe_bl (pa_cons pe_int pa_nil)))))))
    (pss_cons (ps_set (i := 6) nd rfl (Or.inl rfl) (pe_op op_cat (pv 6) (pe_lst (pa_cons (pe_tup (pa_cons pe_str (pa_cons (pe_tup (pa_cons pe_str pa_nil)) (pa_cons (pe_op op_cat (pe_lst (pa_cons (pe_tup (pa_cons pe_str pa_nil)) pa_nil)) (pe_op op_rep (pe_lst (pa_cons (pe_tup (pa_cons pe_str (pa_cons pe_int pa_nil))) pa_nil)) (pe_op op_sub (pv 2) pe_int))) pa_nil)))) pa_nil))))
    (C8.pss_cut (ps_if (pt_cmpR op_eq (pe_call G__law_draw (hr.mono (by omega)) rfl O.m_law_draw O.F_law_draw.kp O.b_law_draw .nil pass0 (pa_cons (pv 0) (pa_cons pe_int pa_nil))) pe_int (nomark _)) (pss_one (ps_set (i := 6) nd rfl (Or.inl rfl) (pe_op op_cat (pv 6) (pe_lst (pa_cons (pe_tup (pa_cons pe_str pa_nil)) pa_nil))))) pss_nil)
    (pss_cons (ps_set (i := 7) nd rfl (Or.inl rfl) (pe_lst (pa_cons (pe_tup (pa_cons pe_str pa_nil)) pa_nil)))
    (C8.pss_cut (ps_if (pt_cmpR op_eq (pe_call G__law_draw (hr.mono (by omega)) rfl O.m_law_draw O.F_law_draw.kp O.b_law_draw .nil pass0 (pa_cons (pv 0) (pa_cons pe_int pa_nil))) pe_int (nomark _)) (pss_one (ps_set (i := 7) nd rfl (Or.inl rfl) (pe_call G__law_body (hr.mono (by omega)) rfl O.m_law_body O.F_law_body.kp O.b_law_body .nil pass0 (pa_cons (pv 0) (pa_cons (pv 5) (pa_cons (pe_lst pa_nil) (pa_cons pe_bl (pa_cons pe_int pa_nil)))))))) pss_nil)
    (pss_cons (ps_set (i := 8) nd rfl (Or.inl rfl) (pe_call G__law_body (hr.mono (by omega)) rfl O.m_law_body O.F_law_body.kp O.b_law_body .nil pass0 (pa_cons (pv 0) (pa_cons (pv 5) (pa_cons (pe_lst pa_nil) (pa_cons pe_bl (pa_cons pe_int pa_nil)))))))
    (C8.pss_cut (ps_if (pt_cmpR op_eq (pe_call G__law_draw (hr.mono (by omega)) rfl O.m_law_draw O.F_law_draw.kp O.b_law_draw .nil pass0 (pa_cons (pv 0) (pa_cons pe_int pa_nil))) pe_int (nomark _)) (pss_one (ps_set (i := 8) nd rfl (Or.inl rfl) (pe_lst (pa_cons (pe_tup (pa_cons pe_str pa_nil)) pa_nil)))) pss_nil)
    (pss_cons (ps_set (i := 9) nd rfl (Or.inl rfl) (pe_tup (pa_cons (pe_call G__law_body (hr.mono (by omega)) rfl O.m_law_body O.F_law_body.kp O.b_law_body .nil pass0 (pa_cons (pv 0) (pa_cons (pv 5) (pa_cons (pe_lst (pa_cons pe_str pa_nil)) (pa_cons pe_bl (pa_cons pe_int pa_nil)))))) (pa_cons (pe_tup (pa_cons pe_str (pa_cons (pe_tup (pa_cons pe_str pa_nil)) (pa_cons (pe_tup (pa_cons pe_str (pa_cons pe_int pa_nil))) pa_nil)))) pa_nil))))
    (C8.pss_cut (ps_if (pt_cmpR op_eq (pe_call G__law_draw (hr.mono (by omega)) rfl O.m_law_draw O.F_law_draw.kp O.b_law_draw .nil pass0 (pa_cons (pv 0) (pa_cons pe_int pa_nil))) pe_int (nomark _)) (pss_one (ps_set (i := 9) nd rfl (Or.inl rfl) (pe_tup (pa_cons (pe_lst pa_nil) (pa_cons (pe_call G__law_expr (hr.mono (by omega)) rfl O.m_law_expr O.F_law_expr.kp O.b_law_expr .nil pass0 (pa_cons (pv 0) (pa_cons (pe_lst (pa_cons pe_str pa_nil)) (pa_cons (pv 4) (pa_cons pe_int pa_nil))))) pa_nil))))) pss_nil)
    (pss_one (ps_ret (pe_tup (pa_cons pe_str (pa_cons (pv 1) (pa_cons (pv 2) (pa_cons (pv 3) (pa_cons (pv 4) (pa_cons (pv 6) (pa_cons (pv 7) (pa_cons (pv 8) (pa_cons (pv 9) pa_nil)))))))))))))))))))))))))), ?_⟩
  -- the four numbers
  refine ⟨_, rfl, st, c, 3, rfl, T, by decide, by decide, fun r1 H1 r10 r13 g1 => ⟨_, _, rfl, rfl, ?_⟩⟩
  refine ⟨_, rfl, (by show 2 ≤ sizeLine; decide), fun l nl => ⟨_, rfl, _, _, rfl, rfl, ⟨by decide, by decide⟩, ?_⟩⟩
  obtain ⟨m, hm, hm2⟩ := pick2 (a := 2) (b := 1) (r := (1 + r1) / 3) (by omega) (by omega)
  have gl := g1.mk1 nl (.lst [.int 2, .int 1])
  refine ⟨l, _, _, _, rfl, rfl, SqL.of upd_same, hm, st, c, m, rfl, gl.st, by omega, by omega, fun r2 H2 r20 r2m g2 => ⟨_, _, rfl, rfl, ?_⟩⟩
  have g02 := gl.trans g2
  refine ⟨_, rfl, st, c, 2, rfl, g02.st, by decide, by decide, fun r3 H3 r30 r32 g3 => ⟨_, _, rfl, rfl, ?_⟩⟩
  have g03 := g02.trans g3
  refine ⟨_, rfl, st, c, 3, rfl, g03.st, by decide, by decide, fun r4 H4 r40 r43 g4 => ?_⟩
  have g04 := g03.trans g4
  refine ⟨_, rfl, _, rfl, (by show 2 ≤ sizeLine; decide), fun sh nsh => ?_⟩
  obtain ⟨W, hW⟩ : ∃ W : Int, W = 1 + r2 := ⟨_, rfl⟩
  have hW1 : 1 ≤ W ∧ W ≤ 2 := by omega
  obtain ⟨S0, hS0⟩ : ∃ S0 : Stv, S0 = ⟨1 + r1, 1 + r2, 1 + r3, r4, [], [], [], [], .num 0⟩ := ⟨_, rfl⟩
  have gs := Go.new g04.st nsh (.lst [.int (1 + r2), .int r4])
  obtain ⟨sh1, sh2⟩ := g04.st.free nsh
  have g05 := g04.trans gs.1
  obtain ⟨H5, hH5⟩ : ∃ H5, H5 = upd H4 sh (.lst [.int (1 + r2), .int r4]) := ⟨_, rfl⟩
  have hsh5 : H5 sh = some (.lst [.int (1 + r2), .int r4]) := by rw [hH5]; exact upd_same
  rw [← hH5] at g05 gs ⊢
  -- put
  refine ⟨_, rfl, _, rfl, (by show 2 ≤ sizeLine; decide), fun nm nnm => ?_⟩
  obtain ⟨nm1, nm2⟩ := g05.st.free nnm
  have gn := Go.new g05.st nnm (.lst [.str "key", .str "value"])
  refine ⟨st, c, nm, sh, [false, true], scPut S0, ⟨by rw [hS0]; rfl, gn.1.st, nm1, nm2, sh1, sh2, upd_same, ?_, rfl, by decide, by rw [hS0]; exact r40, ?_, ?_, ?_⟩, fun b v H6 g6 hb hc hcnt hh hl => ?_⟩
  · rw [upd_ne (ne_of_none hsh5 nnm), hS0]; exact hsh5
  · rw [hS0]; show r4 ≤ 10; omega
  · rw [hS0]; show 0 ≤ 1 + r2; omega
  · rw [hS0]; show 1 + r2 ≤ 10; omega
  have g06 := (g05.trans gn.1).trans g6
  have gs6 := gn.1.trans g6
  obtain ⟨pb, xs, rfl, hpb, hxs⟩ := hb
  obtain ⟨npb, hpb6⟩ := fr_get hpb
  have hw2 : (1 + r2 - 1).toNat = r2.toNat := by omega
  refine ⟨_, rfl, (by show 1 ≤ sizeLine; decide), fun tk ntk => ⟨(by show 1 ≤ sizeLine; decide), fun tv ntv => ⟨(by show 1 ≤ sizeLine; decide), fun lv nlv => ⟨(by show 2 ≤ sizeLine; decide), fun tn ntn => ⟨(by show 1 ≤ sizeLine; decide), fun ln nln => ?_⟩⟩⟩⟩⟩
  refine ⟨_, rfl, _, _, rfl, rfl, ln, 1 + r2 - 1, _, rfl, rfl, upd_same, by omega, by omega, (by show 1 * _ ≤ sizeLine; rw [sizeLine_eq]; omega), fun lr nlr => ?_⟩
  have a1 := new_same ntk (.tup [.str "key"])
  have a2 := new_same ntv (.tup [.str "value"])
  have a3 := new_same nlv (.lst [.ref tv])
  have a4 := new_same ntn (.tup [.str "num", .int 0])
  have a5 := new_same nln (.lst [.ref tn])
  have a6 := new_same nlr (.lst (List.replicate (1 + r2 - 1).toNat [.ref tn]).flatten)
  have s36 := a4.trans (a5.trans a6)
  refine ⟨lv, lr, _, _, rfl, rfl, s36 _ _ upd_same, upd_same, ?_, fun lw nlw => ⟨(by show 3 ≤ sizeLine; decide), fun tw ntw => ⟨(by show 1 ≤ sizeLine; decide), fun lt nlt => ?_⟩⟩⟩
  · rw [rep_len, List.length_singleton]; exact Nat.le_of_lt (small5 (by omega))
  have a7 := new_same nlw (.lst ([.ref tv] ++ (List.replicate (1 + r2 - 1).toNat [.ref tn]).flatten))
  have a8 := new_same ntw (.tup [.str "write", .ref tk, .ref lw])
  have a9 := new_same nlt (.lst [.ref tw])
  have s16 := a1.trans (a2.trans (a3.trans s36))
  have s19 := s16.trans (a7.trans (a8.trans a9))
  have hxl := hxs.len
  have hbl := len_cnt b
  have hc6 : 2 * cS 1 = 6 := rfl
  refine ⟨pb, lt, _, _, rfl, rfl, s19 _ _ hpb6, upd_same, ?_, fun p' np' => ?_⟩
  · show xs.length + 1 ≤ sizeLine
    exact Nat.le_of_lt (small5 (by omega))
  have a10 := new_same np' (.lst (xs ++ [.ref tw]))
  have g16 := g06.same1 (s19.trans a10)
  have s6 := s19.trans a10
  -- what stands there
  have n1 : H tk = none := g06.dom _ ntk
  have n2 : H tv = none := g06.dom _ (a1.free ntv)
  have n4 : H tn = none := g06.dom _ (a1.free (a2.free (a3.free ntn)))
  have n7 : H lw = none := g06.dom _ (s16.free nlw)
  have n8 : H tw = none := g06.dom _ (s16.free (a7.free ntw))
  have n10 : H p' = none := g06.dom _ (s19.free np')
  obtain ⟨He, hHe⟩ : ∃ He, He = upd (upd (upd (upd (upd (upd (upd (upd (upd (upd H6 tk (.tup [.str "key"])) tv (.tup [.str "value"])) lv (.lst [.ref tv])) tn (.tup [.str "num", .int 0])) ln (.lst [.ref tn])) lr (.lst (List.replicate (1 + r2 - 1).toNat [.ref tn]).flatten)) lw (.lst ([.ref tv] ++ (List.replicate (1 + r2 - 1).toNat [.ref tn]).flatten))) tw (.tup [.str "write", .ref tk, .ref lw])) lt (.lst [.ref tw])) p' (.lst (xs ++ [.ref tw])) := ⟨_, rfl⟩
  have k10 : He p' = some (.lst (xs ++ [.ref tw])) := by rw [hHe]; exact upd_same
  have k8 : He tw = some (.tup [.str "write", .ref tk, .ref lw]) := by rw [hHe]; exact (a9.trans a10) _ _ upd_same
  have k7 : He lw = some (.lst ([.ref tv] ++ (List.replicate (1 + r2 - 1).toNat [.ref tn]).flatten)) := by rw [hHe]; exact (a8.trans (a9.trans a10)) _ _ upd_same
  have k4 : He tn = some (.tup [.str "num", .int 0]) := by rw [hHe]; exact (a5.trans (a6.trans (a7.trans (a8.trans (a9.trans a10))))) _ _ upd_same
  have k2 : He tv = some (.tup [.str "value"]) := by rw [hHe]; exact (a3.trans (s36.trans (a7.trans (a8.trans (a9.trans a10))))) _ _ upd_same
  have k1 : He tk = some (.tup [.str "key"]) := by rw [hHe]; exact (a2.trans (a3.trans (s36.trans (a7.trans (a8.trans (a9.trans a10)))))) _ _ upd_same
  rw [← hHe] at g16 s6 ⊢
  have g6e : Go st c H6 He := Go.of_same g06.st s6
  have g5e : Go st c H5 He := gs6.trans g6e
  have hwid : (scPut S0).width = 1 + r2 := by rw [hS0]; rfl
  have put1 : GB 7 H He (scPut S0) (.ref p') := by
    refine ⟨b ++ [.write (.arg false) (.arg true :: List.replicate (1 + r2 - 1).toNat (.num 0))], ⟨p', _, rfl, fr_of n10 k10, (hxs.same (fr_up gn.1.st (g05.trans gn.1).dom g6e)).app (.cons ?_ .nil)⟩, ?_, ?_, ?_, ?_⟩
    · unfold SmAt
      exact ⟨tw, .ref tk, lw, _, rfl, fr_of n8 k8, ⟨tk, rfl, fr_of n1 k1⟩, fr_of n7 k7, ⟨tv, rfl, fr_of n2 k2⟩, rep_at (e := .num 0) (x := .ref tn) ⟨tn, rfl, fr_of n4 k4⟩ _⟩
    · rw [chkB_app, hc, chkB_cons, chkB_nil, fst_none]
      show fst (if true = true then none else some ("write" : Str)) (fst (chkE (scPut S0) (.arg false)) (fst (if (((Ex.arg true :: List.replicate (1 + r2 - 1).toNat (Ex.num 0)).length : Nat) : Int) = (scPut S0).width then none else some ("width" : Str)) (chkEs (scPut S0) (Ex.arg true :: List.replicate (1 + r2 - 1).toNat (Ex.num 0))))) = none
      rw [if_pos rfl, if_pos (by rw [hwid, List.length_cons, List.length_replicate]; omega), good_E (ns := [false, true]) rfl (e := .arg false) (by simp [GoodE]) (by decide),
        good_Es (ns := [false, true]) rfl (fun e he => ?_)]
      · rfl
      · rcases List.mem_cons.mp he with rfl | he
        · exact ⟨by simp [GoodE], by decide⟩
        · rw [List.eq_of_mem_replicate he]
          exact ⟨⟨by decide, by decide⟩, by decide⟩
    · rw [cnt_app, cnt, cnt, cntS]
      omega
      all_goals (intros; contradiction)
    · rw [hgt_app, hgt, hgt, hgtS]
      omega
      all_goals (intros; contradiction)
    · rw [lps_app, lps, lps, lpsS]
      omega
      all_goals (intros; contradiction)
  -- perhaps a barrier behind it
  refine ⟨fun σ H' => ∃ v, σ = [some (.ref st), some (.int (1 + r1)), some (.int (1 + r2)), some (.int (1 + r3)), some (.int r4), some (.ref sh), some v, none, none, none] ∧ Go st c H5 H' ∧ GB 10 H H' (scPut S0) v, ?_, ?_⟩
  · refine ⟨_, rfl, st, c, 2, rfl, g16.st, by decide, by decide, fun r7 H7 r70 r72 g7 => ⟨rfl, _, rfl, ite2 (fun cc => ?_) (fun cc => ?_)⟩⟩
    · refine ⟨_, rfl, (by show 1 ≤ sizeLine; decide), fun t nt => ⟨(by show 1 ≤ sizeLine; decide), fun l nl => ?_⟩⟩
      have g07 := g16.trans g7
      have bl := bar_list (S := scPut S0) g07 nt nl rfl
      obtain ⟨p, q', xs, ys, e1, e2, h1, h2, h3, h4⟩ := GB.app T (g07.trans bl.2) (put1.go T (g7.trans bl.2)) bl.1
      cases e1
      cases e2
      refine ⟨p', l, xs, ys, rfl, rfl, h1, h2, Nat.le_of_lt (small5 (by omega)), fun r nr => ?_⟩
      exact ⟨_, rfl, (g5e.trans g7).trans (bl.2.trans (Go.new bl.2.st nr _).1), (h4 r nr).le (by decide)⟩
    · exact ⟨_, rfl, g5e.trans g7, (put1.go T g7).le (by decide)⟩
  rintro σ H8 ⟨v8, rfl, g8, b8⟩
  have given : ∀ {H' : Hp} {nm : Addr} (ns : List Bool) (S : Sc), Go st c H5 H' → H' nm = none → S.args = ns.map argName → ns.length ≤ 3 → S.width = 1 + r2 → S.variables = r4 → Given [.ref st, .ref sh, .ref nm, .bl S.writes, .int 1] 1 (upd H' nm (.lst (ns.map argV))) st c nm sh ns S := fun {H' nm} ns S g' nn h1 h2 h3 h4 => by
    obtain ⟨m1, m2⟩ := g'.st.free nn
    have gn := Go.new g'.st nn (.lst (ns.map argV))
    refine ⟨rfl, gn.1.st, m1, m2, sh1, sh2, upd_same, ?_, h1, h2, by omega, by omega, by omega, by omega⟩
    rw [h3, h4]
    exact (g'.trans gn.1).kept hsh5 sh1 sh2
  have hB : ∀ {k : Nat} {H1 H2 : Hp} {S : Sc} {b : List Sm} {v : V}, BdV (Fr H1 H2) b v → chkB S b = none → cnt b ≤ 2 * cS 1 → hgt b ≤ 1 + 2 → lps b ≤ 1 → Dom H H1 → GB 10 H H2 S v := fun hb hc hcnt hh hl d => ⟨_, hb.same (fr_dom d), hc, by omega, by omega, by omega⟩
  have sN : (scNone S0).width = 1 + r2 ∧ (scNone S0).variables = r4 := by rw [hS0]; exact ⟨rfl, rfl⟩
  have sG : (scGet S0).width = 1 + r2 ∧ (scGet S0).variables = r4 := by rw [hS0]; exact ⟨rfl, rfl⟩
  -- sync
  have g08 := g05.trans g8
  refine ⟨(by show 1 ≤ sizeLine; decide), fun t9 nt9 => ⟨(by show 1 ≤ sizeLine; decide), fun l9 nl9 => ?_⟩⟩
  have bl9 := bar_list (S := scNone S0) g08 nt9 nl9 rfl
  have g09 := g08.trans bl9.2
  refine ⟨fun σ H' => ∃ v, σ = [some (.ref st), some (.int (1 + r1)), some (.int (1 + r2)), some (.int (1 + r3)), some (.int r4), some (.ref sh), some v8, some v, none, none] ∧ Go st c H5 H' ∧ GB 10 H H' (scPut S0) v8 ∧ GB 10 H H' (scNone S0) v, ?_, ?_⟩
  · refine ⟨_, rfl, st, c, 4, rfl, g09.st, by decide, by decide, fun r10 H10 r100 r104 g10 => ⟨rfl, _, rfl, ite2 (fun cc => ?_) (fun cc => ?_)⟩⟩
    · refine ⟨_, rfl, _, rfl, (by show 0 ≤ sizeLine; decide), fun nm nnm => ?_⟩
      have g910 := g8.trans (bl9.2.trans g10)
      have gnm := Go.new g910.st nnm (.lst [])
      refine ⟨st, c, nm, sh, [], scNone S0, given [] (scNone S0) g910 nnm rfl (by decide) sN.1 sN.2, fun b v H11 g11 hb hc hcnt hh hl => ?_⟩
      have g1011 := gnm.1.trans g11
      exact ⟨_, rfl, g910.trans g1011, b8.go T (bl9.2.trans (g10.trans g1011)), hB (k := 0) hb hc hcnt hh hl ((g05.trans g910).trans gnm.1).dom⟩
    · exact ⟨_, rfl, g8.trans (bl9.2.trans g10), b8.go T (bl9.2.trans g10), (bl9.1.go T g10).le (by decide)⟩
  rintro σ H11 ⟨v11, rfl, g11, b11, c11⟩
  -- recover
  refine ⟨_, rfl, _, rfl, (by show 0 ≤ sizeLine; decide), fun nm12 nn12 => ?_⟩
  have gn12 := Go.new g11.st nn12 (.lst [])
  refine ⟨st, c, nm12, sh, [], scNone S0, given [] (scNone S0) g11 nn12 rfl (by decide) sN.1 sN.2, fun b12 v12 H12 g12 hb12 hc12 hcnt12 hh12 hl12 => ?_⟩
  have g1112 := gn12.1.trans g12
  have d12 : GB 10 H H12 (scNone S0) v12 := hB (k := 0) hb12 hc12 hcnt12 hh12 hl12 ((g05.trans g11).trans gn12.1).dom
  have gg12 := g11.trans g1112
  refine ⟨fun σ H' => ∃ v, σ = [some (.ref st), some (.int (1 + r1)), some (.int (1 + r2)), some (.int (1 + r3)), some (.int r4), some (.ref sh), some v8, some v11, some v, none] ∧ Go st c H5 H' ∧ GB 10 H H' (scPut S0) v8 ∧ GB 10 H H' (scNone S0) v11 ∧ GB 10 H H' (scNone S0) v, ?_, ?_⟩
  · refine ⟨_, rfl, st, c, 2, rfl, gg12.st, by decide, by decide, fun r13 H13 r130 r132 g13 => ⟨rfl, _, rfl, ite2 (fun cc => ?_) (fun cc => ?_)⟩⟩
    · refine ⟨(by show 1 ≤ sizeLine; decide), fun t nt => ⟨(by show 1 ≤ sizeLine; decide), fun l nl => ?_⟩⟩
      have gg13 := gg12.trans g13
      have bl := bar_list (S := scNone S0) (g05.trans gg13) nt nl rfl
      have ga := g1112.trans (g13.trans bl.2)
      exact ⟨_, rfl, gg13.trans bl.2, b11.go T ga, c11.go T ga, bl.1.le (by decide)⟩
    · have ga := g1112.trans g13
      exact ⟨_, rfl, gg12.trans g13, b11.go T ga, c11.go T ga, d12.go T g13⟩
  rintro σ H14 ⟨v14, rfl, g14, b14, c14, d14⟩
  -- get
  refine ⟨_, rfl, _, rfl, (by show 1 ≤ sizeLine; decide), fun nm15 nn15 => ?_⟩
  have gn15 := Go.new g14.st nn15 (.lst [.str "key"])
  refine ⟨st, c, nm15, sh, [false], scGet S0, given [false] (scGet S0) g14 nn15 rfl (by decide) sG.1 sG.2, fun b15 v15 H15 g15 hb15 hc15 hcnt15 hh15 hl15 => ?_⟩
  have e15 : GB 10 H H15 (scGet S0) v15 := hB (k := 0) hb15 hc15 hcnt15 hh15 hl15 ((g05.trans g14).trans gn15.1).dom
  have g1415 := gn15.1.trans g15
  have gg15 := g14.trans g1415
  have g0_15 := g05.trans gg15
  refine ⟨(by show 1 ≤ sizeLine; decide), fun tk ntk => ⟨(by show 2 ≤ sizeLine; decide), fun tn ntn => ⟨(by show 3 ≤ sizeLine; decide), fun tr ntr => ⟨(by show 2 ≤ sizeLine; decide), fun tg ntg => ?_⟩⟩⟩⟩
  have a1 := new_same ntk (.tup [.str "key"])
  have a2 := new_same ntn (.tup [.str "num", .int 0])
  have a3 := new_same ntr (.tup [.str "read", .ref tk, .ref tn])
  have a4 := new_same ntg (.tup [v15, .ref tr])
  have sA := a1.trans (a2.trans (a3.trans a4))
  have gA := Go.of_same gg15.st sA
  have gg16 := gg15.trans gA
  have get1 : GG H (upd (upd (upd (upd H15 tk (.tup [.str "key"])) tn (.tup [.str "num", .int 0])) tr (.tup [.str "read", .ref tk, .ref tn])) tg (.tup [v15, .ref tr])) (scGet S0) (.ref tg) := by
    refine ⟨tg, v15, .ref tr, .two .read (.arg false) (.num 0), rfl, fr_of (g0_15.dom _ (a1.free (a2.free (a3.free ntg)))) upd_same, e15.go T gA,
      ⟨tr, .ref tk, .ref tn, rfl, fr_of (g0_15.dom _ (a1.free (a2.free ntr))) (a4 _ _ upd_same), ⟨tk, rfl, fr_of (g0_15.dom _ ntk) ((a2.trans (a3.trans a4)) _ _ upd_same)⟩, ⟨tn, rfl, fr_of (g0_15.dom _ (a1.free ntn)) ((a3.trans a4) _ _ upd_same)⟩⟩, ?_⟩
    exact good_E (ns := [false]) rfl (by simp [GoodE]) (by decide)
  refine ⟨fun σ H' => ∃ v, σ = [some (.ref st), some (.int (1 + r1)), some (.int (1 + r2)), some (.int (1 + r3)), some (.int r4), some (.ref sh), some v8, some v11, some v14, some v] ∧ Go st c H5 H' ∧ GB 10 H H' (scPut S0) v8 ∧ GB 10 H H' (scNone S0) v11 ∧ GB 10 H H' (scNone S0) v14 ∧ GG H H' (scGet S0) v, ?_, ?_⟩
  · refine ⟨_, rfl, st, c, 5, rfl, gg16.st, by decide, by decide, fun r17 H17 r170 r175 g17 => ⟨rfl, _, rfl, ite2 (fun cc => ?_) (fun cc => ?_)⟩⟩
    · refine ⟨(by show 0 ≤ sizeLine; decide), fun l0 nl0 => ⟨_, rfl, (by show 1 ≤ sizeLine; decide), fun nm nnm => ⟨_, rfl, ?_⟩⟩⟩
      have gg17 := gg16.trans g17
      have gl0 := Go.new gg17.st nl0 (.lst [])
      have gnm := Go.new gl0.1.st nnm (.lst [.str "key"])
      obtain ⟨m1, m2⟩ := gl0.1.st.free nnm
      refine ⟨st, c, nm, [false], r4, 3, rfl, gnm.1.st, m1, m2, upd_same, by decide, r40, by omega, by decide, by decide, fun e v H18 g18 he gd dp => ?_⟩
      refine ⟨(by show 2 ≤ sizeLine; decide), fun p np => ?_⟩
      have gm := gl0.1.trans (gnm.1.trans g18)
      have gp := Go.new g18.st np (.tup [.ref l0, v])
      have gg18 := gg17.trans gm
      have ga := (g1415.trans gA).trans (g17.trans (gm.trans gp.1))
      have n0 : H l0 = none := (g05.trans gg17).dom _ nl0
      obtain ⟨z1, z2⟩ := gg17.st.free nl0
      have hl0 := (gnm.1.trans (g18.trans gp.1)).kept (show upd H17 l0 (.lst []) l0 = some (.lst []) from upd_same) z1 z2
      refine ⟨_, rfl, gg18.trans gp.1, b14.go T ga, c14.go T ga, d14.go T ga, p, .ref l0, v, e, rfl, fr_of ((g05.trans gg18).dom _ np) upd_same, ⟨[], BdV.nil (fr_of n0 hl0), chkB_nil _, ?_, ?_, ?_⟩, he.same (fr_up gnm.1.st ((g05.trans gg17).trans (gl0.1.trans gnm.1)).dom gp.1), good_E (ns := [false]) rfl (by rw [sG.2]; exact gd) (by omega)⟩
      · rw [cnt]; decide
      · rw [hgt]; decide
      · rw [lps]; decide
    · have ga := (g1415.trans gA).trans g17
      exact ⟨_, rfl, gg16.trans g17, b14.go T ga, c14.go T ga, d14.go T ga, get1.go T g17⟩
  rintro σ H19 ⟨v19, rfl, g19, b19, c19, d19, e19⟩
  obtain ⟨bp, hbp, bp1⟩ := b19
  obtain ⟨bs, hbs, bs1⟩ := c19
  obtain ⟨br, hbr, br1⟩ := d19
  obtain ⟨tg9, x9, y9, e9, rfl, htg9, ⟨bg, hbg, bg1⟩, he9, hce9⟩ := e19
  refine ⟨_, rfl, _, rfl, _, rfl, _, rfl, _, rfl, _, rfl, _, rfl, _, rfl, (by show 9 ≤ sizeLine; decide), fun p np => ?_⟩
  have gp := Go.new g19.st np (.tup [.str "store", .int (1 + r1), .int (1 + r2), .int (1 + r3), .int r4, v8, v11, v14, .ref tg9])
  have f := fr_go T gp.1 (H1 := H19)
  have eS : ∀ (x : Sc), True := fun _ => trivial
  refine q ⟨1 + r1, 1 + r2, 1 + r3, r4, bp, bs, br, bg, e9⟩ _ _ (g05.trans (g19.trans gp.1)) ⟨p, v8, v11, v14, tg9, x9, y9, rfl, fr_of ((g05.trans g19).dom _ np) upd_same, hbp.same f, hbs.same f, hbr.same f, f _ _ htg9, hbg.same f, he9.same f⟩ ?_
  subst hS0
  exact ⟨by show 1 ≤ 1 + r1 ∧ 1 + r1 ≤ 3; omega, by show 1 ≤ 1 + r2 ∧ 1 + r2 ≤ 2; omega, by show 1 ≤ 1 + r3 ∧ 1 + r3 ≤ 2; omega, by show 0 ≤ r4 ∧ r4 ≤ 2; omega, bp1, bs1, br1, bg1, hce9⟩
end
end S2
namespace S2
open PySem L2
def spDepth : Sp := fun vs H Q _ => ∃ (e : Ex) (v : V), vs = [v] ∧ ExAt H e v ∧ dep e ≤ 8 ∧ ∀ H', Same H H' → Q (.int (dep e)) H'
section
variable {P : Program} {w : World} {K : PySem.W.Frag} {mg : Str → Option Value} {base : Heap} {D : Defs}
theorem sc_depth : FnScope ["e", "levels", "layer"] ["e"] (defScope s_depth) := ⟨rfl, rfl, rfl, by decide +kernel, rfl, by decide +kernel, by decide +kernel⟩
theorem ok_depth (O : Ok P K mg D) : FnOk P w K mg base CX0 3 D.fdepth D.ddepth ["e"] spDepth := by
  have G_expressions_below : FnOk P w K mg base CX0 2 D.fexpressions_below D.dexpressions_below ["layer"] spBelowE := ok_belowE O
  refine O.Fdepth.ok sc_depth (fun vs H Q E h => ?_) (fun cdv A outer s H vs Q E hr h => ?_)
  · obtain ⟨e, v, rfl, _⟩ := h
    rfl
  obtain ⟨e, v, rfl, he, hd, q⟩ := h
  have nd := sc_depth.nd
  have bk : ∀ own scope, blkC ["e", "levels", "layer"] (defScope s_depth) scope own = true → BlkOk ["e", "levels", "layer"] (defScope s_depth) scope own := fun own scope h => blkOk_by h
  refine ⟨_, (pss_cons (ps_set (i := 1) nd rfl (Or.inl rfl) pe_int)
    (pss_cons (ps_set (i := 2) nd rfl (Or.inl rfl) (pe_lst (pa_cons (pv 0) pa_nil)))
    (pss_cons (ps_while PassesOwn.never (pt_truth (pv 2) (by intro _; rfl)) (pss_cons (ps_aug (i := 1) nd rfl (Or.inl rfl) pe_int ip_add)
    (pss_one (ps_set (i := 2) nd rfl (Or.inl rfl) (pe_call G_expressions_below (hr.mono (by omega)) rfl O.mexpressions_below O.Fexpressions_below.kp O.bexpressions_below .nil pass0 (pa_cons (pv 2) pa_nil))))))
    (pss_one (ps_ret (pv 1)))))), ?_⟩
  refine ⟨_, rfl, (by show 1 ≤ sizeLine; decide), fun l nl => ?_⟩
  dsimp only [gName, tSeq]
  refine while_by (fun σ H1 => ∃ (i : Nat) (p : Addr) (xs : List V), σ = [some v, some (.int (i : Int)), some (.ref p)] ∧ Same H H1 ∧ H1 p = some (.lst xs) ∧ ExsAt H1 (lay i [e]) xs ∧ i ≤ dep e)
    (fun σ _ => 20 - (match σ with | [_, some (.int i), _] => i.toNat | _ => 0)) ⟨0, l, [v], rfl, new_same nl _, upd_same, ⟨he.same (new_same nl _), trivial⟩, Nat.zero_le _⟩ ?_ ?_
  · rintro σ H1 ⟨i, p, xs, rfl, s1, hp, hx, hi⟩
    have h1 := lay_dep i [e]
    have h2 := hx.len
    refine ⟨_, rfl, !xs.isEmpty, .inl ⟨xs, SqL.of hp, rfl⟩, ?_⟩
    cases xs with
    | nil =>
      refine iteF ?_
      have : ¬ i < dep e := fun z => by
        have z2 : lay i [e] ≠ [] := h1.mpr ⟨e, List.mem_singleton.mpr rfl, z⟩
        exact z2 (List.length_eq_zero_iff.mp h2.symm)
      have hie : i = dep e := by omega
      refine ⟨_, rfl, ?_⟩
      rw [hie]
      exact q H1 s1
    | cons x r =>
      refine iteT ?_
      have hlt : i < dep e := by
        have z2 : lay i [e] ≠ [] := fun y => by rw [y] at h2; cases h2
        obtain ⟨y, hy, h⟩ := h1.mp z2
        rw [List.mem_singleton.mp hy] at h
        exact h
      have hz := lay_len i [e]
      have hz2 : 2 ^ i ≤ 2 ^ 8 := Nat.pow_le_pow_right (by decide) (by omega)
      refine ⟨_, rfl, _, _, rfl, rfl, _, rfl, p, lay i [e], _, rfl, hp, hx, by rw [List.length_singleton] at hz; omega, fun r ys H2 s2 hr2 hy => ?_⟩
      refine ⟨⟨i + 1, r, ys, ?_, s1.trans s2, hr2, ?_, hlt⟩, ?_⟩
      · show _ = [some v, some (.int (((i + 1 : Nat)) : Int)), some (.ref r)]
        rfl
      · rw [lay_succ]
        exact hy.same s2
      · show 20 - ((i : Int) + 1).toNat < 20 - (i : Int).toNat
        omega
  · rintro σ H1 Q1 Q2 m ⟨x, hx, k, ht, hq⟩
    exact ⟨x, hx, k, ht, m _ _ hq⟩
end
end S2
namespace S2
open PySem L2
def mx (ms : List Nat) : Nat := ms.foldl max 0
theorem mx_take {ms : List Nat} {i m : Nat} (h : ms[i]? = some m) : mx (ms.take (i + 1)) = max (mx (ms.take i)) m := by
  unfold mx
  rw [take_more h, List.foldl_append]
  rfl
theorem ex_parts {H : Hp} : ∀ {e : Ex} {v : V}, ExAt H e v → ∃ (p : Addr) (k : Str) (xs : List V) (ms : List Nat), v = .ref p ∧ H p = some (.tup (.str k :: xs)) ∧ xs.length = ms.length ∧ xs.length ≤ 2 ∧ dep e = 1 + mx ms ∧
    ∀ (i : Nat) (x : V), xs[i]? = some x → (∃ w : Int, x = .int w ∧ ms[i]? = some 0) ∨ (∃ e' p', x = .ref p' ∧ ExAt H e' x ∧ ms[i]? = some (dep e') ∧ dep e' < dep e)
  | .num w, _, ⟨p, h1, h2⟩ => ⟨p, _, [.int w], [0], h1, h2, rfl, of_decide_eq_true rfl, rfl, fun i x hx => by
    match i, hx with
    | 0, hx => cases hx; exact .inl ⟨w, rfl, rfl⟩
    | i + 1, hx => cases hx⟩
  | .var w, _, ⟨p, h1, h2⟩ => ⟨p, _, [.int w], [0], h1, h2, rfl, of_decide_eq_true rfl, rfl, fun i x hx => by
    match i, hx with
    | 0, hx => cases hx; exact .inl ⟨w, rfl, rfl⟩
    | i + 1, hx => cases hx⟩
  | .arg b, _, ⟨p, h1, h2⟩ => ⟨p, _, [], [], h1, h2, rfl, of_decide_eq_true rfl, rfl, fun i x hx => by cases hx⟩
  | .one o a, _, ⟨p, y, h1, h2, h3⟩ => ⟨p, _, [y], [dep a], h1, h2, rfl, of_decide_eq_true rfl, by show 1 + dep a = 1 + max 0 (dep a); omega, fun i x hx => by
    match i, hx with
    | 0, hx =>
      cases hx
      obtain ⟨p', _, _, e1, _⟩ := h3.head
      exact .inr ⟨a, p', e1, h3, rfl, by show dep a < 1 + dep a; omega⟩
    | i + 1, hx => cases hx⟩
  | .two o a b, _, ⟨p, y, z, h1, h2, h3, h4⟩ => ⟨p, _, [y, z], [dep a, dep b], h1, h2, rfl, of_decide_eq_true rfl, by show 1 + max (dep a) (dep b) = 1 + max (max 0 (dep a)) (dep b); omega, fun i x hx => by
    match i, hx with
    | 0, hx =>
      cases hx
      obtain ⟨p', _, _, e1, _⟩ := h3.head
      exact .inr ⟨a, p', e1, h3, rfl, by show dep a < 1 + max (dep a) (dep b); omega⟩
    | 1, hx =>
      cases hx
      obtain ⟨p', _, _, e1, _⟩ := h4.head
      exact .inr ⟨b, p', e1, h4, rfl, by show dep b < 1 + max (dep a) (dep b); omega⟩
    | i + 2, hx => cases hx⟩
def spLD (n : Nat) : Sp := fun vs H Q _ => ∃ (e : Ex) (v : V), vs = [v] ∧ ExAt H e v ∧ dep e ≤ n ∧ ∀ H', Same H H' → Q (.int (dep e)) H'
section
variable {P : Program} {w : World} {K : PySem.W.Frag} {mg : Str → Option Value} {base : Heap} {D : Defs}
theorem sc__law_depth : FnScope ["e", "deepest", "part"] ["e"] (defScope s__law_depth) := ⟨rfl, rfl, rfl, by decide +kernel, rfl, by decide +kernel, by decide +kernel⟩
theorem no_ld : FnOk P w K mg base CX0 1 D.f_law_depth D.d_law_depth ["e"] (spLD 0) := by
  have no : ∀ vs H Q E, ¬ spLD 0 vs H Q E := fun vs H Q E h => by
    obtain ⟨e, v, _, _, h1, _⟩ := h
    have := dep_pos e
    omega
  exact ⟨fun vs H Q E h => absurd h (no vs H Q E), fun A outer s H args us vs Q E _ _ _ _ h => absurd h (no vs H Q E)⟩
theorem more_ld {n : Nat} (O : Ok P K mg D) (G__law_depth : FnOk P w K mg base CX0 (n + 1) D.f_law_depth D.d_law_depth ["e"] (spLD n)) :
    FnOk P w K mg base CX0 (n + 2) D.f_law_depth D.d_law_depth ["e"] (spLD (n + 1)) := by
  refine O.F_law_depth.ok sc__law_depth (fun vs H Q E h => ?_) (fun cdv A outer s H vs Q E hr h => ?_)
  · obtain ⟨e, v, rfl, _⟩ := h
    rfl
  obtain ⟨e, v, rfl, he, hd, q⟩ := h
  have nd := sc__law_depth.nd
  have bk : ∀ own scope, blkC ["e", "deepest", "part"] (defScope s__law_depth) scope own = true → BlkOk ["e", "deepest", "part"] (defScope s__law_depth) scope own := fun own scope h => blkOk_by h
  refine ⟨_, (pss_cons (ps_set (i := 1) nd rfl (Or.inl rfl) pe_int)
    (pss_cons (ps_for PassesOwn.never rfl (pi_tup (pe_slice sl_tup (pv 0) (po_some pe_int) po_none)) (pg_name (i := 2) nd rfl (Or.inl rfl)) (pss_one (ps_if (pt_val (pe_callB call_isi (by rfl) O.zisinstance PyProof.Rows.boot_isinstance (pa_cons (pv 2) (pa_cons (pe_bltn (v := .ty "tuple") (by rfl) O.ztuple PyProof.Rows.boot_tuple rfl) pa_nil)))) (pss_one (ps_set (i := 1) nd rfl (Or.inl rfl) (pe_callB (call_max2 rfl) (by rfl) O.zmax (by decide +kernel) (pa_cons (pv 1) (pa_cons (pe_call G__law_depth (hr.mono (by omega)) rfl O.m_law_depth O.F_law_depth.kp O.b_law_depth .nil pass0 (pa_cons (pv 2) pa_nil)) pa_nil))))) pss_nil)))
    (pss_one (ps_ret (pe_op op_add pe_int (pv 1)))))), ?_⟩
  obtain ⟨p, k, xs, ms, rfl, hp, hl, hl2, hdep, hparts⟩ := ex_parts he
  refine ⟨_, rfl, 1, rfl, ?_⟩
  refine ⟨p, _, rfl, SqT.of hp, fun z => ?_, fun t nt => ?_⟩
  · have z1 := z.1
    have := HT.sIx_nat (V.str k :: xs).length 0 1
    have e : ((1 : Nat) : Int) = 1 := rfl
    rw [e] at this
    rw [this, List.length_cons] at z1
    omega
  rw [cut_tail]
  have s1 := new_same nt (.tup xs)
  refine ⟨t, rfl, ⟨_, SqT.of upd_same⟩, for_tup (K := K) (a := t) (xs := xs) (fun i σ H' => ∃ u : Option V, σ = [some (.ref p), some (.int (mx (ms.take i))), u] ∧ Same (upd H t (.tup xs)) H') ⟨none, rfl, Same.refl _⟩ (fun i σ H' _ ⟨_, _, s2⟩ => SqT.of (s2 _ _ upd_same)) ?_ ?_⟩
  · rintro i x σ H' hx ⟨u, rfl, s2⟩
    rcases hparts i x hx with ⟨w0, rfl, hm⟩ | ⟨e', p', rfl, he', hm, hlt⟩
    · have em := mx_take hm
      have e0 : max (mx (ms.take i)) 0 = mx (ms.take i) := by omega
      rw [e0] at em
      refine ⟨_, rfl, V.int w0, .ty "tuple", .type "int", .type "tuple", false, rfl, .ty "tuple", .base (.int _), kit_ty (by decide +kernel), false, rfl, iteF ?_⟩
      refine ⟨some (V.int w0), ?_, s2⟩
      rw [em]
      rfl
    · have em := mx_take hm
      have he2 := (he'.same s1).same s2
      obtain ⟨_, _, _, _, e1, htp, _⟩ := ex_parts he2
      cases e1
      refine ⟨_, rfl, V.ref p', .ty "tuple", .type "tuple", .type "tuple", true, rfl, .ty "tuple", .base (.tup htp), kit_ty (by decide +kernel), true, rfl, iteT ?_⟩
      refine ⟨_, rfl, _, rfl, e', .ref p', rfl, he2, by omega, fun H2 s3 => ⟨_, _, rfl, ?_⟩⟩
      refine ⟨some (V.ref p'), ?_, s2.trans s3⟩
      have ez : (if ((dep e' : Nat) : Int) > ((mx (ms.take i) : Nat) : Int) then ((dep e' : Nat) : Int) else ((mx (ms.take i) : Nat) : Int)) = ((mx (ms.take (i + 1)) : Nat) : Int) := by
        rw [em]
        split <;> omega
      rw [ez]
      rfl
  · rintro σ H' ⟨u, rfl, s2⟩
    refine ⟨_, rfl, _, _, rfl, rfl, ?_⟩
    have ez : (1 : Int) + ((mx (ms.take xs.length) : Nat) : Int) = ((dep e : Nat) : Int) := by
      rw [hl, List.take_length, hdep]
      omega
    show Q (.int ((1 : Int) + ((mx (ms.take xs.length) : Nat) : Int))) H'
    rw [ez]
    exact q H' (s1.trans s2)
theorem ok_ld (O : Ok P K mg D) : ∀ n, FnOk P w K mg base CX0 (n + 1) D.f_law_depth D.d_law_depth ["e"] (spLD n)
  | 0 => no_ld
  | n + 1 => more_ld O (ok_ld O n)
end
end S2
namespace S2
open PySem L2
def Deep (k : Nat) (e : Ex) : Prop := (∀ ns, GoodE ns 8 e) ∧ dep e ≤ k
def lPut (e : Ex) : Sm := .ite (.num 1) [.loop 0 8 [.loop 7 8 [.write e [e, .num 0, .num 1, e]]]] [.barrier]
def lStore (e : Ex) (zs : List Sm) : Stv := ⟨6, 4, 3, 8, [lPut e] ++ zs, List.replicate 60 .barrier, [], [.ite e [] []], e⟩
theorem hgt_nil2 : hgt [] = 1 := by rw [hgt]
theorem cnt_nil2 : cnt [] = 0 := by rw [cnt]
theorem lps_nil2 : lps [] = 0 := by rw [lps]
def ZS (s : Sm) : Prop := ∃ r : Int, s = .set r (.arg true) ∧ 0 ≤ r ∧ r < 8
theorem zs_cnt : ∀ {zs : List Sm}, (∀ z ∈ zs, ZS z) → cnt zs = zs.length ∧ hgt zs = 1 ∧ lps zs = 0
  | [], _ => ⟨cnt_nil2, hgt_nil2, lps_nil2⟩
  | z :: r, h => by
    obtain ⟨i, rfl, _⟩ := h z List.mem_cons_self
    obtain ⟨h1, h2, h3⟩ := zs_cnt (zs := r) fun x hx => h x (List.mem_cons_of_mem _ hx)
    have e1 : cntS (.set i (.arg true)) = 1 := by rw [cntS] <;> (intros; contradiction)
    have e2 : hgtS (.set i (.arg true)) = 0 := by rw [hgtS] <;> (intros; contradiction)
    have e3 : lpsS (.set i (.arg true)) = 0 := by rw [lpsS] <;> (intros; contradiction)
    refine ⟨?_, ?_, ?_⟩
    · rw [cnt, e1, h1, List.length_cons]; omega
    · rw [hgt, e2, h2]; rfl
    · rw [lps, e3, h3]; rfl
theorem lput_nums (e : Ex) : cnt [lPut e] = 5 ∧ hgt [lPut e] = 4 ∧ lps [lPut e] = 2 := by
  have e1 : cntS (.write e [e, .num 0, .num 1, e]) = 1 := by rw [cntS] <;> (intros; contradiction)
  have e2 : hgtS (.write e [e, .num 0, .num 1, e]) = 0 := by rw [hgtS] <;> (intros; contradiction)
  have e3 : lpsS (.write e [e, .num 0, .num 1, e]) = 0 := by rw [lpsS] <;> (intros; contradiction)
  have b1 : cntS .barrier = 1 := by rw [cntS] <;> (intros; contradiction)
  have b2 : hgtS .barrier = 0 := by rw [hgtS] <;> (intros; contradiction)
  have b3 : lpsS .barrier = 0 := by rw [lpsS] <;> (intros; contradiction)
  refine ⟨?_, ?_, ?_⟩
  · simp only [lPut, cnt, cntS, e1, b1]
  · simp only [lPut, hgt, hgtS, e2, b2]; decide
  · simp only [lPut, lps, lpsS, e3, b3]; decide
theorem bars_nums : ∀ k : Nat, cnt (List.replicate k .barrier) = k ∧ hgt (List.replicate k .barrier) = 1 ∧ lps (List.replicate k .barrier) = 0
  | 0 => ⟨cnt_nil2, hgt_nil2, lps_nil2⟩
  | k + 1 => by
    obtain ⟨h1, h2, h3⟩ := bars_nums k
    have b1 : cntS .barrier = 1 := by rw [cntS] <;> (intros; contradiction)
    have b2 : hgtS .barrier = 0 := by rw [hgtS] <;> (intros; contradiction)
    have b3 : lpsS .barrier = 0 := by rw [lpsS] <;> (intros; contradiction)
    rw [List.replicate_succ]
    refine ⟨?_, ?_, ?_⟩
    · rw [cnt, b1, h1]; omega
    · rw [hgt, b2, h2]; rfl
    · rw [lps, b3, h3]; rfl
theorem deep_ok {S : Sc} {ns : List Bool} {e : Ex} (hS : S.args = ns.map argName) (hv : S.variables = 8) (h : Deep 5 e) : chkE S e = none := by
  refine good_E (ns := ns) hS ?_ h.2
  rw [hv]
  exact h.1 ns
theorem bars_ok {S : Sc} (h : S.writes = true) : ∀ k : Nat, chkB S (List.replicate k .barrier) = none
  | 0 => chkB_nil S
  | k + 1 => by
    rw [List.replicate_succ, chkB_cons, bars_ok h k, chkSt_eq]
    show fst (fst (if S.writes = true then none else some _) none) none = none
    rw [if_pos h]
    rfl
theorem large_chk {e : Ex} {zs : List Sm} (he : Deep 5 e) (hz : ∀ z ∈ zs, ZS z) (hl : zs.length = 55) : chk (lStore e zs) = none ∧ few (lStore e zs) := by
  obtain ⟨a1, a2, a3⟩ := lput_nums e
  obtain ⟨z1, z2, z3⟩ := zs_cnt hz
  obtain ⟨q1, q2, q3⟩ := bars_nums 60
  have i1 : cnt [.ite e [] []] = 1 := by rw [cnt, cntS, cnt_nil2]
  have i2 : hgt [.ite e [] []] = 2 := by rw [hgt, hgtS, hgt_nil2]; rfl
  have i3 : lps [.ite e [] []] = 0 := by rw [lps, lpsS, lps_nil2]; rfl
  have hp : scPut (lStore e zs) = ⟨4, 8, ["key", "value"], true⟩ := rfl
  have hg : scGet (lStore e zs) = ⟨4, 8, ["key"], false⟩ := rfl
  have hn : scNone (lStore e zs) = ⟨4, 8, [], true⟩ := rfl
  have dp : chkE ⟨4, 8, ["key", "value"], true⟩ e = none := deep_ok (ns := [false, true]) rfl rfl he
  have dg : chkE ⟨4, 8, ["key"], false⟩ e = none := deep_ok (ns := [false]) rfl rfl he
  have hput : chkB ⟨4, 8, ["key", "value"], true⟩ ([lPut e] ++ zs) = none := by
    rw [chkB_app, chkB_cons, chkB_nil]
    have e1 : chkB ⟨4, 8, ["key", "value"], true⟩ zs = none := chkB_all fun z h => by
      obtain ⟨r, rfl, r0, r1⟩ := hz z h
      rw [chkSt_eq]
      show fst (fst (if 0 ≤ r ∧ r < 8 then none else some _) none) none = none
      rw [if_pos ⟨r0, r1⟩]
      rfl
    have ew : chkSt ⟨4, 8, ["key", "value"], true⟩ (.write e [e, .num 0, .num 1, e]) = none := by
      rw [chkSt_eq]
      show fst (fst none (fst (chkE _ e) (fst none (fst (chkE _ e) (fst none (fst none (fst (chkE _ e) none))))))) none = none
      rw [dp]
      rfl
    have el : chkSt ⟨4, 8, ["key", "value"], true⟩ (lPut e) = none := by
      unfold lPut
      rw [chkSt_eq]
      show fst none (fst (chkB _ [_]) (fst (chkB _ [.barrier]) none)) = none
      rw [chkB_cons, chkB_nil, chkSt_eq]
      show fst none (fst (fst (fst none (fst (chkB _ [_]) none)) none) (fst (chkB _ [.barrier]) none)) = none
      rw [chkB_cons, chkB_nil, chkSt_eq]
      show fst none (fst (fst (fst none (fst (fst (fst none (fst (chkB _ [_]) none)) none) none)) none) (fst (chkB _ [.barrier]) none)) = none
      rw [chkB_cons, chkB_nil, ew]
      rfl
    rw [el, e1]
    rfl
  refine ⟨?_, ?_, ?_, ?_, ?_⟩
  · have b1 : chkBody ⟨4, 8, ["key", "value"], true⟩ ([lPut e] ++ zs) = none := body_ok hput (by rw [cnt_app]; omega) (by rw [hgt_app]; omega) (by rw [lps_app]; omega)
    have b2 : chkBody ⟨4, 8, [], true⟩ (List.replicate 60 .barrier) = none := body_ok (bars_ok rfl 60) (by omega) (by omega) (by omega)
    have b3 : chkBody ⟨4, 8, [], true⟩ [] = none := body_ok (chkB_nil _) (by rw [cnt_nil2]; omega) (by rw [hgt_nil2]; omega) (by rw [lps_nil2]; omega)
    have b4 : chkBody ⟨4, 8, ["key"], false⟩ [.ite e [] []] = none := body_ok (by
      rw [chkB_cons, chkB_nil, chkSt_eq]
      show fst (fst (chkE _ e) (fst (chkB _ []) (fst (chkB _ []) none))) none = none
      rw [dg, chkB_nil]
      rfl) (by omega) (by omega) (by omega)
    show fst none (fst none (fst none (fst none (fst (chkBody _ _) (fst (chkBody _ _) (fst (chkBody _ _) (fst (chkBody _ _) (chkE _ e)))))))) = none
    rw [hp, hn, hg]
    show fst none (fst none (fst none (fst none (fst (chkBody _ ([lPut e] ++ zs)) (fst (chkBody _ (List.replicate 60 .barrier)) (fst (chkBody _ []) (fst (chkBody _ [.ite e [] []]) (chkE _ e)))))))) = none
    rw [b1, b2, b3, b4, dg]
    rfl
  · show cnt ([lPut e] ++ zs) ≤ 1000
    rw [cnt_app]; omega
  · show cnt (List.replicate 60 .barrier) ≤ 1000
    omega
  · show cnt [] ≤ 1000
    rw [cnt_nil2]; omega
  · show cnt [.ite e [] []] ≤ 1000
    omega
end S2
namespace S2
open PySem L2
theorem fr_off {H H' : Hp} {st c : Addr} (S : StAt H st c) : Same (Fr H H') (Off H' st c) := fun _ _ e => by
  obtain ⟨h1, h2⟩ := fr_get e
  obtain ⟨n1, n2⟩ := S.free h1
  exact off_of h2 n1 n2
theorem rep_sm {H : Hp} {s : Sm} {x : V} (h : SmAt H s x) : ∀ k : Nat, SmsAt H (List.replicate k s) (List.replicate k [x]).flatten
  | 0 => .nil
  | k + 1 => by
    rw [List.replicate_succ, List.replicate_succ, List.flatten_cons]
    exact .cons h (rep_sm h k)
def spLarge : Sp := fun vs H Q _ => ∃ (st c : Addr), vs = [.ref st] ∧ StAt H st c ∧ ∀ s v H', Go st c H H' → StoreV (Off H' st c) s v → chk s = none → few s → Q v H'
section
variable {P : Program} {w : World} {K : PySem.W.Frag} {mg : Str → Option Value} {base : Heap} {D : Defs}
theorem sc__law_large : FnScope ["state", "e", "k", "inner", "put", "many"] ["state"] (defScope s__law_large) := ⟨rfl, rfl, rfl, by decide +kernel, rfl, by decide +kernel, by decide +kernel⟩
theorem ok_large (O : Ok P K mg D) : FnOk P w K mg base CX0 2 D.f_law_large D.d_law_large ["state"] spLarge := by
  have G__law_draw : FnOk P w K mg base CX0 1 D.f_law_draw D.d_law_draw ["state", "many"] spDraw := ok_draw O
  refine O.F_law_large.ok sc__law_large (fun vs H Q E h => ?_) (fun cdv A outer s H vs Q E hr h => ?_)
  · obtain ⟨st, c, rfl, _⟩ := h
    rfl
  obtain ⟨st, c, rfl, S, q⟩ := h
  have nd := sc__law_large.nd
  have bk : ∀ own scope, blkC ["state", "e", "k", "inner", "put", "many"] (defScope s__law_large) scope own = true → BlkOk ["state", "e", "k", "inner", "put", "many"] (defScope s__law_large) scope own := fun own scope h => blkOk_by h
  refine ⟨_, (pss_cons (ps_set (i := 1) nd rfl (Or.inl rfl) (pe_tup (pa_cons pe_str (pa_cons pe_int pa_nil))))
    (pss_cons (ps_for PassesOwn.never rfl (pi_range1 (by rfl) O.zrange (pa_cons pe_int pa_nil)) (pg_name (i := 2) nd rfl (Or.inl rfl)) (pss_one (ps_set (i := 1) nd rfl (Or.inl rfl) (pe_ix ix_list (pe_lst (pa_cons (pe_tup (pa_cons pe_str (pa_cons (pv 1) pa_nil))) (pa_cons (pe_tup (pa_cons pe_str (pa_cons (pv 1) pa_nil))) (pa_cons (pe_tup (pa_cons pe_str (pa_cons (pv 1) (pa_cons (pe_tup (pa_cons pe_str (pa_cons pe_int pa_nil))) pa_nil)))) (pa_cons (pe_tup (pa_cons pe_str (pa_cons (pe_tup (pa_cons pe_str (pa_cons pe_int pa_nil))) (pa_cons (pv 1) pa_nil)))) pa_nil))))) (pe_call G__law_draw (hr.mono (by omega)) rfl O.m_law_draw O.F_law_draw.kp O.b_law_draw .nil pass0 (pa_cons (pv 0) (pa_cons pe_int pa_nil))) (fun _ _ => rfl)))))
    (pss_cons (ps_set (i := 3) nd rfl (Or.inl rfl) (pe_lst (pa_cons (pe_tup (pa_cons pe_str (pa_cons pe_int (pa_cons pe_int (pa_cons (pe_lst (pa_cons (pe_tup (pa_cons pe_str (pa_cons (pv 1) (pa_cons (pe_lst (pa_cons (pv 1) (pa_cons (pe_tup (pa_cons pe_str (pa_cons pe_int pa_nil))) (pa_cons (pe_tup (pa_cons pe_str (pa_cons pe_int pa_nil))) (pa_cons (pv 1) pa_nil))))) pa_nil)))) pa_nil)) pa_nil))))) pa_nil)))
    (pss_cons (ps_set (i := 4) nd rfl (Or.inl rfl) (pe_lst (pa_cons (pe_tup (pa_cons pe_str (pa_cons (pe_tup (pa_cons pe_str (pa_cons pe_int pa_nil))) (pa_cons (pe_lst (pa_cons (pe_tup (pa_cons pe_str (pa_cons pe_int (pa_cons pe_int (pa_cons (pv 3) pa_nil))))) pa_nil)) (pa_cons (pe_lst (pa_cons (pe_tup (pa_cons pe_str pa_nil)) pa_nil)) pa_nil))))) pa_nil)))
    (pss_cons (ps_set (i := 5) nd rfl (Or.inl rfl) (pe_op op_sub pe_int pe_int))
    (pss_cons (ps_set (i := 4) nd rfl (Or.inl rfl) (pe_op op_cat (pv 4) (pe_lc (own := [("k", 2)]) (g := gName 2) (by rfl) nd (pi_range1 (by rfl) O.zrange (pa_cons (pv 5) pa_nil)) (bk [("k", 2)] _ (by decide +kernel)) (fun _ _ _ _ _ => (pg_name (i := 2) nd rfl (Or.inl rfl))) (fun _ _ _ _ _ => pts_nil) (fun _ _ _ _ _ => (pe_tup (pa_cons pe_str (pa_cons (pe_call G__law_draw (hr.mono (by omega)) rfl O.m_law_draw O.F_law_draw.kp O.b_law_draw .nil pass0 (pa_cons (pv 0) (pa_cons pe_int pa_nil))) (pa_cons (pe_tup (pa_cons pe_str pa_nil)) pa_nil))))))))
    (pss_one (ps_ret (pe_tup (pa_cons pe_str (pa_cons pe_int (pa_cons pe_int (pa_cons pe_int (pa_cons pe_int (pa_cons (pv 4) (pa_cons (pe_op op_rep (pe_lst (pa_cons (pe_tup (pa_cons pe_str pa_nil)) pa_nil)) pe_int) (pa_cons (pe_lst pa_nil) (pa_cons (pe_tup (pa_cons (pe_lst (pa_cons (pe_tup (pa_cons pe_str (pa_cons (pv 1) (pa_cons (pe_lst pa_nil) (pa_cons (pe_lst pa_nil) pa_nil))))) pa_nil)) (pa_cons (pv 1) pa_nil))) pa_nil)))))))))))))))))), ?_⟩
  refine ⟨(by show 2 ≤ sizeLine; decide), fun p0 np0 => ?_⟩
  have g0 := Go.new S np0 (.tup [.str "num", .int 15])
  refine ⟨4, rfl, by decide, by decide, for_range (lo := 0) (n := 4) (fun i σ H' => ∃ (e : Ex) (v : V) (k : Option V), σ = [some (.ref st), some v, k, none, none, none] ∧ Go st c H H' ∧ ExAt (Off H' st c) e v ∧ Deep (i + 1) e)
    ⟨.num 15, _, none, rfl, g0.1, ⟨p0, rfl, g0.2⟩, fun _ => ⟨by decide, by decide⟩, Nat.le_refl _⟩ ?_ ?_⟩
  · rintro i σ H1 hi ⟨e, v, k, rfl, g, he, hd⟩
    refine ⟨_, rfl, (by show 2 ≤ sizeLine; decide), fun t0 n0 => ⟨_, rfl, (by show 2 ≤ sizeLine; decide), fun t1 n1 => ⟨_, rfl, (by show 2 ≤ sizeLine; decide), fun tv nv => ⟨(by show 3 ≤ sizeLine; decide), fun t2 n2 => ⟨(by show 2 ≤ sizeLine; decide), fun tn nn => ⟨_, rfl, (by show 3 ≤ sizeLine; decide), fun t3 n3 => ⟨(by show 4 ≤ sizeLine; decide), fun lq nq => ?_⟩⟩⟩⟩⟩⟩⟩
    have a0 := Go.new g.st n0 (.tup [.str "not", v])
    have a1 := Go.new a0.1.st n1 (.tup [.str "sum", v])
    have a2 := Go.new a1.1.st nv (.tup [.str "var", .int 7])
    have a3 := Go.new a2.1.st n2 (.tup [.str "+", v, .ref tv])
    have a4 := Go.new a3.1.st nn (.tup [.str "num", .int 3])
    have a5 := Go.new a4.1.st n3 (.tup [.str "read", .ref tn, v])
    have a6 := Go.new a5.1.st nq (.lst [.ref t0, .ref t1, .ref t2, .ref t3])
    refine ⟨_, rfl, st, c, 4, rfl, a6.1.st, by decide, by decide, fun r H2 r0 r4 g2 => ?_⟩
    have b5 := a6.1.trans g2
    have b4 := a5.1.trans b5
    have b3 := a4.1.trans b4
    have b2 := a3.1.trans b3
    have b1 := a2.1.trans b2
    have b0 := a1.1.trans b1
    have bA := a0.1.trans b0
    have hv := he.same bA.same
    obtain ⟨x, hx, e', he', hd'⟩ : ∃ x, atI [V.ref t0, V.ref t1, V.ref t2, V.ref t3] r = some x ∧ ∃ e', ExAt (Off H2 st c) e' x ∧ Deep (i + 1 + 1) e' := by
      have hdd := hd.2
      have : r = 0 ∨ r = 1 ∨ r = 2 ∨ r = 3 := by omega
      rcases this with rfl | rfl | rfl | rfl
      · exact ⟨_, rfl, .one false e, ⟨t0, v, rfl, b0.same _ _ a0.2, hv⟩, fun ns => hd.1 ns, by show 1 + dep e ≤ _; omega⟩
      · exact ⟨_, rfl, .one true e, ⟨t1, v, rfl, b1.same _ _ a1.2, hv⟩, fun ns => hd.1 ns, by show 1 + dep e ≤ _; omega⟩
      · exact ⟨_, rfl, .two .add e (.var 7), ⟨t2, v, .ref tv, rfl, b3.same _ _ a3.2, hv, ⟨tv, rfl, b2.same _ _ a2.2⟩⟩, fun ns => ⟨hd.1 ns, by decide, by decide⟩, by show 1 + max (dep e) 1 ≤ _; omega⟩
      · exact ⟨_, rfl, .two .read (.num 3) e, ⟨t3, .ref tn, v, rfl, b5.same _ _ a5.2, ⟨tn, rfl, b4.same _ _ a4.2⟩, hv⟩, fun ns => ⟨⟨by decide, by decide⟩, hd.1 ns⟩, by show 1 + max 1 (dep e) ≤ _; omega⟩
    refine ⟨lq, _, _, _, rfl, rfl, SqL.of (off_get (g2.same _ _ a6.2)).1, hx, ?_⟩
    exact ⟨e', x, _, rfl, g.trans bA, he', hd'⟩
  · rintro σ H1 ⟨e, v, k, rfl, g, he, hd⟩
    refine ⟨_, rfl, _, rfl, (by show 2 ≤ sizeLine; decide), fun m0 nm0 => ⟨(by show 2 ≤ sizeLine; decide), fun m1 nm1 => ⟨_, rfl, (by show 4 ≤ sizeLine; decide), fun lw nlw => ⟨(by show 3 ≤ sizeLine; decide), fun tw ntw => ⟨(by show 1 ≤ sizeLine; decide), fun l1 nl1 => ⟨(by show 4 ≤ sizeLine; decide), fun t1 nt1 => ⟨(by show 1 ≤ sizeLine; decide), fun li nli => ?_⟩⟩⟩⟩⟩⟩⟩
    have a0 := Go.new g.st nm0 (.tup [.str "num", .int 0])
    have a1 := Go.new a0.1.st nm1 (.tup [.str "num", .int 1])
    have a2 := Go.new a1.1.st nlw (.lst [v, .ref m0, .ref m1, v])
    have a3 := Go.new a2.1.st ntw (.tup [.str "write", v, .ref lw])
    have a4 := Go.new a3.1.st nl1 (.lst [.ref tw])
    have a5 := Go.new a4.1.st nt1 (.tup [.str "loop", .int 7, .int 8, .ref l1])
    have a6 := Go.new a5.1.st nli (.lst [.ref t1])
    refine ⟨(by show 2 ≤ sizeLine; decide), fun n1 nn1 => ⟨_, rfl, (by show 4 ≤ sizeLine; decide), fun t2 nt2 => ⟨(by show 1 ≤ sizeLine; decide), fun l2 nl2 => ⟨(by show 1 ≤ sizeLine; decide), fun tb ntb => ⟨(by show 1 ≤ sizeLine; decide), fun lb nlb => ⟨(by show 4 ≤ sizeLine; decide), fun ti nti => ⟨(by show 1 ≤ sizeLine; decide), fun lp nlp => ?_⟩⟩⟩⟩⟩⟩⟩
    have a7 := Go.new a6.1.st nn1 (.tup [.str "num", .int 1])
    have a8 := Go.new a7.1.st nt2 (.tup [.str "loop", .int 0, .int 8, .ref li])
    have a9 := Go.new a8.1.st nl2 (.lst [.ref t2])
    have a10 := Go.new a9.1.st ntb (.tup [.str "barrier"])
    have a11 := Go.new a10.1.st nlb (.lst [.ref tb])
    have a12 := Go.new a11.1.st nti (.tup [.str "if", .ref n1, .ref l2, .ref lb])
    have a13 := Go.new a12.1.st nlp (.lst [.ref ti])
    have c12 := a13.1
    have c11 := a12.1.trans c12
    have c10 := a11.1.trans c11
    have c9 := a10.1.trans c10
    have c8 := a9.1.trans c9
    have c7 := a8.1.trans c8
    have c6 := a7.1.trans c7
    have c5 := a6.1.trans c6
    have c4 := a5.1.trans c5
    have c3 := a4.1.trans c4
    have c2 := a3.1.trans c3
    have c1 := a2.1.trans c2
    have c0 := a1.1.trans c1
    have cA := a0.1.trans c0
    obtain ⟨H2, hH2⟩ : ∃ H2, H2 = upd (upd (upd (upd (upd (upd (upd (upd (upd (upd (upd (upd (upd (upd H1 m0 (.tup [.str "num", .int 0])) m1 (.tup [.str "num", .int 1])) lw (.lst [v, .ref m0, .ref m1, v])) tw (.tup [.str "write", v, .ref lw])) l1 (.lst [.ref tw])) t1 (.tup [.str "loop", .int 7, .int 8, .ref l1])) li (.lst [.ref t1])) n1 (.tup [.str "num", .int 1])) t2 (.tup [.str "loop", .int 0, .int 8, .ref li])) l2 (.lst [.ref t2])) tb (.tup [.str "barrier"])) lb (.lst [.ref tb])) ti (.tup [.str "if", .ref n1, .ref l2, .ref lb])) lp (.lst [.ref ti]) := ⟨_, rfl⟩
    rw [← hH2] at a13 c12 c11 c10 c9 c8 c7 c6 c5 c4 c3 c2 c1 c0 cA ⊢
    have hv := he.same cA.same
    have hsm : SmAt (Off H2 st c) (lPut e) (.ref ti) := by
      unfold lPut SmAt
      refine ⟨ti, .ref n1, l2, _, lb, _, rfl, c12.same _ _ a12.2, ⟨n1, rfl, c7.same _ _ a7.2⟩, c9.same _ _ a9.2, .cons ?_ .nil, c11.same _ _ a11.2, .cons ?_ .nil⟩
      · unfold SmAt
        refine ⟨t2, li, _, rfl, c8.same _ _ a8.2, c6.same _ _ a6.2, .cons ?_ .nil⟩
        unfold SmAt
        refine ⟨t1, l1, _, rfl, c5.same _ _ a5.2, c4.same _ _ a4.2, .cons ?_ .nil⟩
        unfold SmAt
        exact ⟨tw, v, lw, _, rfl, c3.same _ _ a3.2, hv, c2.same _ _ a2.2, ⟨hv, ⟨m0, rfl, c0.same _ _ a0.2⟩, ⟨m1, rfl, c1.same _ _ a1.2⟩, hv, trivial⟩⟩
      · unfold SmAt
        exact ⟨tb, rfl, c10.same _ _ a10.2⟩
    have g2 := g.trans cA
    refine ⟨_, _, rfl, rfl, _, rfl, _, rfl, 55, rfl, by decide, by decide, fun d nd1 => ?_⟩
    obtain ⟨i1, i2, i3⟩ := itr_ok (st := st) (c := c) (n := 55) (H0 := H2)
    refine lc_go SmAt smAt_mono ZS g2.st nd1 (n := 55) (by decide) i1 i2 i3 ?_ ?_
    · intro i x H3 acc hi hx g3 hacc Nx k
      refine ⟨rfl, yes (iteT ?_)⟩
      refine ⟨_, rfl, st, c, 8, rfl, g3.st, by decide, by decide, fun r H4 r0 r8 g4 => ⟨(by show 1 ≤ sizeLine; decide), fun tv ntv => ⟨(by show 3 ≤ sizeLine; decide), fun ts nts => ?_⟩⟩⟩
      have f1 := Go.new g4.st ntv (.tup [.str "value"])
      have f2 := Go.new f1.1.st nts (.tup [.str "set", .int r, .ref tv])
      refine k (.ref ts) _ (.set r (.arg true)) (g4.trans (f1.1.trans f2.1)) ?_ ⟨r, rfl, r0, r8⟩
      have e1 : H3 tv = none := g4.dom _ ntv
      have e2 : H3 ts = none := (g4.trans f1.1).dom _ nts
      unfold SmAt
      exact ⟨ts, .ref tv, rfl, fr_of e2 upd_same, ⟨tv, rfl, fr_of e1 (new_same nts _ _ _ upd_same)⟩⟩
    intro H3 zs acc g3 hacc hz hl hzz
    have d0 := g2.st.free nd1
    have hzl := Each.len hz
    have hsz := (smsEach.mpr hz).same (fr_off (stAt_upd g2.st d0.1 d0.2))
    have hsm3 := hsm.same g3.same
    have g03 := g2.trans g3
    refine ⟨lp, d, _, acc, rfl, rfl, (off_get (g3.same _ _ a13.2)).1, hacc, Nat.le_of_lt (small5 (by show 1 + acc.length ≤ _; omega)), fun p np => ?_⟩
    have f1 := Go.new g3.st np (.lst ([.ref ti] ++ acc))
    refine ⟨_, rfl, (by show 1 ≤ sizeLine; decide), fun tb2 ntb2 => ⟨(by show 1 ≤ sizeLine; decide), fun ln nln => ⟨ln, 60, _, rfl, rfl, upd_same, by omega, by omega, (by show 1 * _ ≤ sizeLine; rw [sizeLine_eq]; decide), fun lr nlr => ⟨(by show 0 ≤ sizeLine; decide), fun rl nrl => ⟨_, rfl, (by show 0 ≤ sizeLine; decide), fun q1 nq1 => ⟨(by show 0 ≤ sizeLine; decide), fun q2 nq2 => ⟨(by show 4 ≤ sizeLine; decide), fun tg ntg => ⟨(by show 1 ≤ sizeLine; decide), fun lg nlg => ⟨_, rfl, (by show 2 ≤ sizeLine; decide), fun gt ngt => ⟨(by show 9 ≤ sizeLine; decide), fun ps nps => ?_⟩⟩⟩⟩⟩⟩⟩⟩⟩⟩
    have f2 := Go.new f1.1.st ntb2 (.tup [.str "barrier"])
    have f3 := Go.new f2.1.st nln (.lst [.ref tb2])
    have f4 := Go.new f3.1.st nlr (.lst (List.replicate (60 : Int).toNat [.ref tb2]).flatten)
    have f5 := Go.new f4.1.st nrl (.lst [])
    have f6 := Go.new f5.1.st nq1 (.lst [])
    have f7 := Go.new f6.1.st nq2 (.lst [])
    have f8 := Go.new f7.1.st ntg (.tup [.str "if", v, .ref q1, .ref q2])
    have f9 := Go.new f8.1.st nlg (.lst [.ref tg])
    have f10 := Go.new f9.1.st ngt (.tup [.ref lg, v])
    have f11 := Go.new f10.1.st nps (.tup [.str "store", .int 6, .int 4, .int 3, .int 8, .ref p, .ref lr, .ref rl, .ref gt])
    have y10 := f11.1
    have y9 := f10.1.trans y10
    have y8 := f9.1.trans y9
    have y7 := f8.1.trans y8
    have y6 := f7.1.trans y7
    have y5 := f6.1.trans y6
    have y4 := f5.1.trans y5
    have y3 := f4.1.trans y4
    have y2 := f3.1.trans y3
    have y1 := f2.1.trans y2
    have yA := f1.1.trans y1
    have hv2 := (hv.same g3.same).same yA.same
    obtain ⟨r1, r2⟩ := large_chk (e := e) (zs := zs) ⟨hd.1, hd.2⟩ hzz hl
    refine q (lStore e zs) (.ref ps) _ (g03.trans yA) ⟨ps, .ref p, .ref lr, .ref rl, gt, .ref lg, v, rfl, f11.2, ⟨p, _, rfl, y1.same _ _ f1.2, (SmsAt.cons (hsm3.same yA.same) .nil).app (hsz.same yA.same)⟩,
      ⟨lr, _, rfl, y4.same _ _ f4.2, rep_sm ?_ 60⟩, ⟨rl, _, rfl, y5.same _ _ f5.2, .nil⟩, y10.same _ _ f10.2, ⟨lg, _, rfl, y9.same _ _ f9.2, .cons ?_ .nil⟩, hv2⟩ r1 r2
    · unfold SmAt
      exact ⟨tb2, rfl, y2.same _ _ f2.2⟩
    · unfold SmAt
      exact ⟨tg, v, q1, [], q2, [], rfl, y8.same _ _ f8.2, hv2, y6.same _ _ f6.2, .nil, y7.same _ _ f7.2, .nil⟩
end
end S2
namespace S2
open PySem L2
/-! ### the data as the text shows it -/
def exD : Ex → PyData
  | .num w => .tuple [.str "num", .int w]
  | .var i => .tuple [.str "var", .int i]
  | .arg b => .tuple [.str (argName b)]
  | .one o a => .tuple [.str (oneName o), exD a]
  | .two o a b => .tuple [.str o.name, exD a, exD b]
def exsD : List Ex → List PyData
  | [] => []
  | e :: r => exD e :: exsD r
mutual
def smD : Sm → PyData
  | .set i e => .tuple [.str "set", .int i, exD e]
  | .write e ws => .tuple [.str "write", exD e, .list (exsD ws)]
  | .barrier => .tuple [.str "barrier"]
  | .ite e a b => .tuple [.str "if", exD e, .list (smsD a), .list (smsD b)]
  | .loop i n b => .tuple [.str "loop", .int i, .int n, .list (smsD b)]
def smsD : List Sm → List PyData
  | [] => []
  | s :: r => smD s :: smsD r
end
def stD (s : Stv) : PyData := .tuple [.str "store", .int s.sectors, .int s.width, .int s.keys, .int s.variables, .list (smsD s.put), .list (smsD s.sync), .list (smsD s.recover), .tuple [.list (smsD s.gb), exD s.ge]]
section
variable {P : Program} {w : World} {H : Hp} {h : Heap}
def RV (h : Heap) (v : V) (d : PyData) : Prop := ∀ u, RelV v u → ∃ as, Reads h u d as
def RVs (h : Heap) (xs : List V) (ds : List PyData) : Prop := ∀ us, Vals xs us → ∃ as, ReadsAll h us ds as
theorem RVs.nil : RVs h [] [] := fun us r => by cases r; exact ⟨_, .nil⟩
theorem RVs.cons {x : V} {xs : List V} {d : PyData} {ds : List PyData} (a : RV h x d) (b : RVs h xs ds) : RVs h (x :: xs) (d :: ds) := fun us r => by
  cases r with
  | cons r1 r2 =>
    obtain ⟨as, h1⟩ := a _ r1
    obtain ⟨bs, h2⟩ := b _ r2
    exact ⟨_, .cons h1 h2⟩
theorem rv_int (i : Int) : RV h (.int i) (.int i) := fun u r => by
  obtain ⟨t, rfl⟩ := r
  exact ⟨_, .int i t⟩
theorem rv_str (x : Str) : RV h (.str x) (.str x) := fun u r => by
  obtain ⟨t, rfl⟩ := r
  exact ⟨_, .str x t⟩
theorem rv_tup {p : Addr} {xs : List V} {ds : List PyData} (hok : HOk P w H h) (hp : H p = some (.tup xs)) (a : RVs h xs ds) : RV h (.ref p) (.tuple ds) := fun u r => by
  obtain rfl : u = Value.ref p := r
  obtain ⟨_, its, hv, o, e, hc, n, hd⟩ := (show ObjOk P w H h p (.tup xs) from hok p _ hp)
  obtain ⟨as, h1⟩ := a _ hv
  exact ⟨_, .tuple e hc hd (by simpa using h1)⟩
theorem rv_lst {p : Addr} {xs : List V} {ds : List PyData} (hok : HOk P w H h) (hp : H p = some (.lst xs)) (a : RVs h xs ds) : RV h (.ref p) (.list ds) := fun u r => by
  obtain rfl : u = Value.ref p := r
  obtain ⟨_, its, n, hv, e⟩ := (show ObjOk P w H h p (.lst xs) from hok p _ hp)
  obtain ⟨as, h1⟩ := a _ hv
  exact ⟨_, .list e rfl rfl (by simpa using h1)⟩
theorem ex_rv (hok : HOk P w H h) : ∀ {e : Ex} {v : V}, ExAt H e v → RV h v (exD e)
  | .num _, _, ⟨p, e1, e2⟩ => e1 ▸ rv_tup hok e2 (.cons (rv_str _) (.cons (rv_int _) .nil))
  | .var _, _, ⟨p, e1, e2⟩ => e1 ▸ rv_tup hok e2 (.cons (rv_str _) (.cons (rv_int _) .nil))
  | .arg _, _, ⟨p, e1, e2⟩ => e1 ▸ rv_tup hok e2 (.cons (rv_str _) .nil)
  | .one _ _, _, ⟨p, x, e1, e2, e3⟩ => e1 ▸ rv_tup hok e2 (.cons (rv_str _) (.cons (ex_rv hok e3) .nil))
  | .two _ _ _, _, ⟨p, x, y, e1, e2, e3, e4⟩ => e1 ▸ rv_tup hok e2 (.cons (rv_str _) (.cons (ex_rv hok e3) (.cons (ex_rv hok e4) .nil)))
theorem exs_rv (hok : HOk P w H h) : ∀ {es : List Ex} {xs : List V}, ExsAt H es xs → RVs h xs (exsD es)
  | [], [], _ => .nil
  | _ :: _, _ :: _, ⟨h1, h2⟩ => .cons (ex_rv hok h1) (exs_rv hok h2)
  | [], _ :: _, h => h.elim
  | _ :: _, [], h => h.elim
mutual
theorem sm_rv (hok : HOk P w H h) : ∀ {s : Sm} {v : V}, SmAt H s v → RV h v (smD s)
  | .set i e, _, z => by
    unfold SmAt at z
    obtain ⟨p, x, rfl, h2, h3⟩ := z
    unfold smD
    exact rv_tup hok h2 (.cons (rv_str _) (.cons (rv_int _) (.cons (ex_rv hok h3) .nil)))
  | .write e ws, _, z => by
    unfold SmAt at z
    obtain ⟨p, x, l, xs, rfl, h2, h3, h4, h5⟩ := z
    unfold smD
    exact rv_tup hok h2 (.cons (rv_str _) (.cons (ex_rv hok h3) (.cons (rv_lst hok h4 (exs_rv hok h5)) .nil)))
  | .barrier, _, z => by
    unfold SmAt at z
    obtain ⟨p, rfl, h2⟩ := z
    unfold smD
    exact rv_tup hok h2 (.cons (rv_str _) .nil)
  | .ite e a b, _, z => by
    unfold SmAt at z
    obtain ⟨p, x, la, xa, lb, xb, rfl, h2, h3, h4, h5, h6, h7⟩ := z
    unfold smD
    exact rv_tup hok h2 (.cons (rv_str _) (.cons (ex_rv hok h3) (.cons (rv_lst hok h4 (sms_rv hok h5)) (.cons (rv_lst hok h6 (sms_rv hok h7)) .nil))))
  | .loop i n b, _, z => by
    unfold SmAt at z
    obtain ⟨p, l, xs, rfl, h2, h3, h4⟩ := z
    unfold smD
    exact rv_tup hok h2 (.cons (rv_str _) (.cons (rv_int _) (.cons (rv_int _) (.cons (rv_lst hok h3 (sms_rv hok h4)) .nil))))
theorem sms_rv (hok : HOk P w H h) : ∀ {es : List Sm} {xs : List V}, SmsAt H es xs → RVs h xs (smsD es)
  | [], [], _ => by
    unfold smsD
    exact .nil
  | s :: r, x :: xs, z => by
    unfold smsD
    unfold SmsAt at z
    exact .cons (sm_rv hok z.1) (sms_rv hok z.2)
  | [], _ :: _, h => by unfold SmsAt at h; exact h.elim
  | _ :: _, [], h => by unfold SmsAt at h; exact h.elim
end
theorem bd_rv (hok : HOk P w H h) {b : List Sm} {v : V} (z : BdV H b v) : RV h v (.list (smsD b)) := by
  obtain ⟨p, xs, rfl, h1, h2⟩ := z
  exact rv_lst hok h1 (sms_rv hok h2)
theorem st_rv (hok : HOk P w H h) {s : Stv} {v : V} (z : StoreV H s v) : RV h v (stD s) := by
  obtain ⟨p, a, b, c, g, x, y, rfl, h1, h2, h3, h4, h5, h6, h7⟩ := z
  exact rv_tup hok h1 (.cons (rv_str _) (.cons (rv_int _) (.cons (rv_int _) (.cons (rv_int _) (.cons (rv_int _) (.cons (bd_rv hok h2) (.cons (bd_rv hok h3) (.cons (bd_rv hok h4) (.cons (rv_tup hok h5 (.cons (bd_rv hok h6) (.cons (ex_rv hok h7) .nil))) .nil)))))))))
end
end S2
namespace S2
open PySem L2
/-- shown in at most n signs, nested at most k deep -/
structure Nice (n k : Nat) (d : PyData) : Prop where
  sh : d.showable = true
  nd : d.hasDict = false
  len : d.shown.length ≤ n
  dp : d.depth ≤ k
structure Nices (n k : Nat) (ds : List PyData) : Prop where
  sh : PyData.showableAll ds = true
  nd : PyData.hasDictAll ds = false
  len : piled (PyData.shownAll ds) ≤ n
  dp : PyData.depthAll ds ≤ k
theorem Nice.le {n m k j : Nat} {d : PyData} (h : Nice n k d) (a : n ≤ m) (b : k ≤ j) : Nice m j d := ⟨h.sh, h.nd, Nat.le_trans h.len a, Nat.le_trans h.dp b⟩
theorem Nices.nil {k : Nat} : Nices 0 k [] := ⟨by rw [PyData.showableAll], by rw [PyData.hasDictAll], by rw [PyData.shownAll]; exact Nat.le_refl _, by rw [PyData.depthAll]; exact Nat.zero_le _⟩
theorem Nices.cons {n m k : Nat} {d : PyData} {ds : List PyData} (a : Nice n k d) (b : Nices m k ds) : Nices (n + 2 + m) k (d :: ds) :=
  ⟨by rw [PyData.showableAll, a.sh, b.sh]; rfl, by rw [PyData.hasDictAll, a.nd, b.nd]; rfl, by rw [PyData.shownAll, piled_cons]; have := a.len; have := b.len; omega, by rw [PyData.depthAll]; have := a.dp; have := b.dp; omega⟩
theorem tup_len (ts : List Str) : (tupleText ts).length ≤ piled ts + 3 := by
  unfold tupleText
  rw [strLen_append, strLen_append]
  have e1 : ((("(" : String) : Str)).length = 1 := rfl
  have e2 : ((if ts.length == 1 then ",)" else ")" : String) : Str).length ≤ 2 := by split <;> decide
  cases ts with
  | nil =>
    have e3 : (Str.join ", " []).length = 0 := rfl
    rw [e1, e3]
    omega
  | cons t r =>
    have := join_length_add (t :: r) (by simp)
    rw [e1]
    omega
theorem from_len : ∀ (ts : List Str) (k : Nat) (acc : Str), (textFrom k acc ts).length ≤ acc.length + piled ts
  | [], k, acc => Nat.le_refl _
  | t :: r, k, acc => by
    have ih := from_len r (k + 1) (acc ++ (if k > 0 then ", " else "" : String) ++ t)
    have e : (acc ++ (if k > 0 then ", " else "" : String) ++ t).length ≤ acc.length + 2 + t.length := by
      rw [strLen_append, strLen_append]
      have : ((if k > 0 then ", " else "" : String) : Str).length ≤ 2 := by split <;> decide
      omega
    rw [piled_cons]
    show (textFrom (k + 1) _ r).length ≤ _
    omega
theorem lst_len (ts : List Str) : (listText ts).length ≤ piled ts + 2 := by
  unfold listText
  rw [strLen_append]
  have h1 := from_len ts 0 "["
  have e1 : ((("[" : String) : Str)).length = 1 := rfl
  have e2 : ((("]" : String) : Str)).length = 1 := rfl
  omega
theorem Nices.tup {n k : Nat} {ds : List PyData} (h : Nices n k ds) : Nice (n + 3) (k + 1) (.tuple ds) :=
  ⟨by rw [PyData.showable]; exact h.sh, by rw [PyData.hasDict]; exact h.nd, by rw [PyData.shown]; have := tup_len (PyData.shownAll ds); have := h.len; omega, by rw [PyData.depth]; have := h.dp; omega⟩
theorem Nices.lst {n k : Nat} {ds : List PyData} (h : Nices n k ds) : Nice (n + 2) (k + 1) (.list ds) :=
  ⟨by rw [PyData.showable]; exact h.sh, by rw [PyData.hasDict]; exact h.nd, by rw [PyData.shown]; have := lst_len (PyData.shownAll ds); have := h.len; omega, by rw [PyData.depth]; have := h.dp; omega⟩
theorem int_all : ∀ n : Fin 21, (toString ((n.val : Nat) : Int) : Str).length ≤ 4 ∧ ((n.val : Nat) : Int).natAbs.log2 < 1920 := by decide +kernel
theorem nice_int {i : Int} (h0 : 0 ≤ i) (h1 : i ≤ 20) (k : Nat) : Nice 4 k (.int i) := by
  obtain ⟨a, b⟩ := int_all ⟨i.toNat, by omega⟩
  have e : ((i.toNat : Nat) : Int) = i := by omega
  rw [e] at a b
  exact ⟨by rw [PyData.showable]; exact decide_eq_true b, by rw [PyData.hasDict], by rw [PyData.shown]; exact a, by rw [PyData.depth]; exact Nat.zero_le _⟩
theorem nice_str {x : Str} {n : Nat} (k : Nat) (h : (reprText x).length ≤ n) : Nice n k (.str x) :=
  ⟨by rw [PyData.showable], by rw [PyData.hasDict], by rw [PyData.shown]; exact h, by rw [PyData.depth]; exact Nat.zero_le _⟩
theorem op_len (o : Op) : (reprText o.name).length ≤ 7 := by cases o <;> decide +kernel
theorem one_len (o : Bool) : (reprText (oneName o)).length ≤ 7 := by cases o <;> decide +kernel
theorem arg_len (o : Bool) : (reprText (argName o)).length ≤ 7 := by cases o <;> decide +kernel
theorem fst_nn {a b : Option Str} (h : fst a b = none) : a = none ∧ b = none := by
  cases a with
  | none => exact ⟨rfl, h⟩
  | some x => cases h
theorem if_nn {c : Prop} [Decidable c] {r : Str} (h : (if c then none else some r) = (none : Option Str)) : c := by
  by_cases z : c
  · exact z
  · rw [if_neg z] at h; cases h
theorem two_pow (d : Nat) : 1 ≤ 2 ^ d := Nat.one_le_two_pow
theorem ex_nice {S : Sc} (hv : S.variables ≤ 8) : ∀ {e : Ex}, chkL S e = none → Nice (17 * 2 ^ dep e - 16) (dep e) (exD e)
  | .num w, h => by
    have := if_nn (show (if 0 ≤ w ∧ w < 16 then none else some ("word" : Str)) = none from h)
    exact ((Nices.cons (nice_str 0 (n := 7) (by decide +kernel)) (.cons (nice_int (by omega) (by omega) 0) .nil)).tup).le (by show _ ≤ 17 * 2 ^ 1 - 16; decide) (Nat.le_refl _)
  | .var i, h => by
    have := if_nn (show (if 0 ≤ i ∧ i < S.variables then none else some ("variable" : Str)) = none from h)
    exact ((Nices.cons (nice_str 0 (n := 7) (by decide +kernel)) (.cons (nice_int (by omega) (by omega) 0) .nil)).tup).le (by show _ ≤ 17 * 2 ^ 1 - 16; decide) (Nat.le_refl _)
  | .arg b, h => ((Nices.cons (nice_str 0 (arg_len b)) .nil).tup).le (by show _ ≤ 17 * 2 ^ 1 - 16; decide) (Nat.le_refl _)
  | .one o a, h => by
    have ih := ex_nice hv (e := a) h
    have e : dep (.one o a) = dep a + 1 := by show 1 + dep a = _; omega
    rw [e]
    have p := two_pow (dep a)
    exact ((Nices.cons (nice_str _ (one_len o)) (.cons ih .nil)).tup).le (by rw [Nat.pow_succ]; omega) (Nat.le_refl _)
  | .two o a b, h => by
    obtain ⟨h1, h2⟩ := fst_nn (show fst (chkL S a) (chkL S b) = none from h)
    have i1 := ex_nice hv h1
    have i2 := ex_nice hv h2
    have e : dep (.two o a b) = max (dep a) (dep b) + 1 := by show 1 + max (dep a) (dep b) = _; omega
    rw [e]
    have p1 : 2 ^ dep a ≤ 2 ^ max (dep a) (dep b) := Nat.pow_le_pow_right (by decide) (by omega)
    have p2 : 2 ^ dep b ≤ 2 ^ max (dep a) (dep b) := Nat.pow_le_pow_right (by decide) (by omega)
    have q1 := two_pow (dep a)
    have q2 := two_pow (dep b)
    exact ((Nices.cons (nice_str _ (op_len o)) (.cons (i1.le (Nat.le_refl _) (by omega)) (.cons (i2.le (Nat.le_refl _) (by omega)) .nil))).tup).le (by rw [Nat.pow_succ]; omega) (Nat.le_refl _)
theorem exE_nice {S : Sc} (hv : S.variables ≤ 8) {e : Ex} (h : chkE S e = none) : Nice 528 5 (exD e) := by
  unfold chkE at h
  by_cases c : 5 < dep e
  · rw [if_pos c] at h; cases h
  · rw [if_neg c] at h
    have p : 2 ^ dep e ≤ 2 ^ 5 := Nat.pow_le_pow_right (by decide) (by omega)
    exact (ex_nice hv h).le (by have : (2 : Nat) ^ 5 = 32 := rfl; omega) (by omega)
theorem exs_nice {S : Sc} (hv : S.variables ≤ 8) : ∀ {es : List Ex}, chkEs S es = none → Nices (530 * es.length) 5 (exsD es)
  | [], _ => Nices.nil
  | e :: r, h => by
    obtain ⟨h1, h2⟩ := fst_nn (show fst (chkE S e) (chkEs S r) = none from h)
    have := Nices.cons (exE_nice hv h1) (exs_nice hv h2)
    refine ⟨this.sh, this.nd, Nat.le_trans this.len ?_, this.dp⟩
    rw [List.length_cons]; omega
mutual
theorem sm_nice {S : Sc} (hv : S.variables ≤ 8) (hw : S.width ≤ 4) : ∀ {s : Sm}, chkSt S s = none → Nice (3000 * cntS s - 2) (2 * hgtS s + 8) (smD s)
  | .set i e, h => by
    obtain ⟨h1, _⟩ := fst_nn ((chkSt_eq S _).symm.trans h)
    obtain ⟨h2, h3⟩ := fst_nn (show fst (chkV S i) (chkE S e) = none from h1)
    have hi := if_nn (show (if 0 ≤ i ∧ i < S.variables then none else some ("variable" : Str)) = none from h2)
    have e1 : cntS (.set i e) = 1 := by rw [cntS] <;> (intros; contradiction)
    rw [e1]
    unfold smD
    exact ((Nices.cons (nice_str 5 (n := 9) (by decide +kernel)) (.cons (nice_int (by omega) (by omega) 5) (.cons (exE_nice hv h3) .nil))).tup).le (by decide) (by omega)
  | .write e ws, h => by
    obtain ⟨h1, _⟩ := fst_nn ((chkSt_eq S _).symm.trans h)
    obtain ⟨_, h1⟩ := fst_nn (show fst (if S.writes = true then none else some ("write" : Str)) (fst (chkE S e) (fst (if (ws.length : Int) = S.width then none else some ("width" : Str)) (chkEs S ws))) = none from h1)
    obtain ⟨h2, h1⟩ := fst_nn h1
    obtain ⟨h3, h4⟩ := fst_nn h1
    have hl := if_nn h3
    have e1 : cntS (.write e ws) = 1 := by rw [cntS] <;> (intros; contradiction)
    rw [e1]
    unfold smD
    exact ((Nices.cons (nice_str 6 (n := 9) (by decide +kernel)) (.cons ((exE_nice hv h2).le (Nat.le_refl _) (by decide)) (.cons (exs_nice hv h4).lst .nil))).tup).le (by omega) (by omega)
  | .barrier, h => by
    have e1 : cntS .barrier = 1 := by rw [cntS] <;> (intros; contradiction)
    rw [e1]
    unfold smD
    exact ((Nices.cons (nice_str 0 (n := 9) (by decide +kernel)) .nil).tup).le (by decide) (by omega)
  | .ite e a b, h => by
    obtain ⟨h1, h2⟩ := fst_nn (show fst (chkS S (.ite e a b)) (fst (chkB S a) (chkB S b)) = none by
      rw [chkSt] at h
      exact h)
    obtain ⟨h3, h4⟩ := fst_nn h2
    have he : chkE S e = none := h1
    have i1 := sms_nice hv hw h3
    have i2 := sms_nice hv hw h4
    rw [cntS, hgtS]
    unfold smD
    exact ((Nices.cons (nice_str _ (n := 9) (by decide +kernel)) (.cons ((exE_nice hv he).le (Nat.le_refl _) (by omega)) (.cons (i1.lst.le (Nat.le_refl _) (by omega)) (.cons (i2.lst.le (Nat.le_refl _) (by omega)) .nil)))).tup (k := 2 * max (hgt a) (hgt b) + 7)).le (by omega) (by omega)
  | .loop i n b, h => by
    obtain ⟨h1, h2⟩ := fst_nn (show fst (chkS S (.loop i n b)) (chkB S b) = none by
      rw [chkSt] at h
      exact h)
    obtain ⟨h3, h4⟩ := fst_nn (show fst (chkV S i) (if 1 ≤ n ∧ n ≤ 8 then none else some ("size" : Str)) = none from h1)
    have hi := if_nn (show (if 0 ≤ i ∧ i < S.variables then none else some ("variable" : Str)) = none from h3)
    have hn := if_nn h4
    have i1 := sms_nice hv hw h2
    rw [cntS, hgtS]
    unfold smD
    exact ((Nices.cons (nice_str _ (n := 9) (by decide +kernel)) (.cons (nice_int (by omega) (by omega) _) (.cons (nice_int (by omega) (by omega) _) (.cons i1.lst .nil)))).tup).le (by omega) (by omega)
theorem sms_nice {S : Sc} (hv : S.variables ≤ 8) (hw : S.width ≤ 4) : ∀ {b : List Sm}, chkB S b = none → Nices (3000 * cnt b) (2 * hgt b + 6) (smsD b)
  | [], _ => by
    unfold smsD
    rw [cnt]
    exact Nices.nil
  | s :: r, h => by
    rw [chkB_cons] at h
    obtain ⟨h1, h2⟩ := fst_nn h
    have i1 := sm_nice hv hw h1
    have i2 := sms_nice hv hw h2
    unfold smsD
    rw [cnt, hgt]
    have hc : 1 ≤ cntS s := by
      cases s with
      | ite e a b => rw [cntS]; omega
      | loop i n b => rw [cntS]; omega
      | set i e => rw [cntS] <;> first | exact Nat.le_refl _ | (intros; contradiction)
      | write e ws => rw [cntS] <;> first | exact Nat.le_refl _ | (intros; contradiction)
      | barrier => rw [cntS] <;> first | exact Nat.le_refl _ | (intros; contradiction)
    have := Nices.cons (i1.le (Nat.le_refl _) (show 2 * hgtS s + 8 ≤ 2 * max (1 + hgtS s) (hgt r) + 6 by omega)) (⟨i2.sh, i2.nd, i2.len, Nat.le_trans i2.dp (by omega)⟩ : Nices _ (2 * max (1 + hgtS s) (hgt r) + 6) _)
    exact ⟨this.sh, this.nd, Nat.le_trans this.len (by omega), this.dp⟩
end
theorem body_nice {S : Sc} (hv : S.variables ≤ 8) (hw : S.width ≤ 4) {b : List Sm} (h : chkBody S b = none) (hc : cnt b ≤ 1000) : Nice 3000002 15 (.list (smsD b)) := by
  obtain ⟨h1, h2⟩ := fst_nn (show fst (if fits b = true then none else some ("size" : Str)) (chkB S b) = none from h)
  have hh := fits_hgt (if_nn h1)
  exact ((sms_nice hv hw h2).lst).le (by omega) (by omega)
theorem st_nice {s : Stv} (h : chk s = none) (f : few s) : Nice 16000000 17 (stD s) := by
  obtain ⟨n1, h⟩ := fst_nn (show fst (rng 1 6 s.sectors "sectors") (fst (rng 1 4 s.width "width") (fst (rng 1 3 s.keys "keys") (fst (rng 0 8 s.variables "variables") (fst (chkBody (scPut s) s.put) (fst (chkBody (scNone s) s.sync) (fst (chkBody (scNone s) s.recover) (fst (chkBody (scGet s) s.gb) (chkE (scGet s) s.ge)))))))) = none from h)
  obtain ⟨n2, h⟩ := fst_nn h
  obtain ⟨n3, h⟩ := fst_nn h
  obtain ⟨n4, h⟩ := fst_nn h
  obtain ⟨h1, h⟩ := fst_nn h
  obtain ⟨h2, h⟩ := fst_nn h
  obtain ⟨h3, h⟩ := fst_nn h
  obtain ⟨h4, h5⟩ := fst_nn h
  have m1 := if_nn n1
  have m2 := if_nn n2
  have m3 := if_nn n3
  have m4 := if_nn n4
  have b1 := body_nice (S := scPut s) (by show s.variables ≤ 8; omega) (by show s.width ≤ 4; omega) h1 f.1
  have b2 := body_nice (S := scNone s) (by show s.variables ≤ 8; omega) (by show s.width ≤ 4; omega) h2 f.2.1
  have b3 := body_nice (S := scNone s) (by show s.variables ≤ 8; omega) (by show s.width ≤ 4; omega) h3 f.2.2.1
  have b4 := body_nice (S := scGet s) (by show s.variables ≤ 8; omega) (by show s.width ≤ 4; omega) h4 f.2.2.2
  have b5 := exE_nice (S := scGet s) (by show s.variables ≤ 8; omega) h5
  have g := (Nices.cons b4 (.cons (b5.le (Nat.le_refl _) (by decide)) .nil)).tup
  unfold stD
  exact ((Nices.cons (nice_str 16 (n := 9) (by decide +kernel)) (.cons (nice_int (by omega) (by omega) 16) (.cons (nice_int (by omega) (by omega) 16) (.cons (nice_int (by omega) (by omega) 16) (.cons (nice_int (by omega) (by omega) 16) (.cons (b1.le (Nat.le_refl _) (by decide)) (.cons (b2.le (Nat.le_refl _) (by decide)) (.cons (b3.le (Nat.le_refl _) (by decide)) (.cons g .nil))))))))).tup).le (by decide) (by decide)
end S2
namespace S2
open PySem L2
/-- repr of tracked data, where no repr goes on -/
def rRepr (P : Program) (w : World) : List V → Hp → VK → Prop := fun xs H Q => ∃ (p : Addr) (d : PyData) (n k : Nat), xs = [.ref p] ∧ (∀ h, HOk P w H h → RV h (.ref p) d) ∧ Nice n k d ∧ n ≤ 16000000 ∧ k ≤ 60 ∧ Q (.str d.shown) H
theorem call_repr {X : Cx} {k : Nat} (hg : X.A.guards = some []) (hr : Room k X.A) : CallR X (.builtin "repr") (rRepr X.prog X.w) := by
  intro pins s σ H xs us Q I r h
  obtain ⟨p, d, n, m, rfl, hd, hn, hn2, hm, q⟩ := h
  obtain ⟨u, rfl, ru⟩ := vals1 r
  obtain rfl : u = Value.ref p := ru
  obtain ⟨as, rd⟩ := hd s.heap I.hok _ rfl
  refine repr_of_reads' (h₀ := s.heap) rd hn.sh (PyData.noDict_hsm hn.nd) hg (by have := hr.un; have := hn.dp; omega) (fun _ _ e => e) (fun h' u tk k => ?_) (by rw [sizeLine_eq]; have := hn.len; omega)
  exact ⟨.str d.shown, H, I.kept (t' := tk) k, ⟨u, rfl⟩, q⟩
end S2
namespace S2
open PySem L2 PySem.Spec PyProof.Rows
/-- a promise of a def that is called where no repr goes on -/
def RunG (P : Program) (w : World) (K : PySem.W.Frag) (mg : Str → Option Value) (base : Heap) (k : Nat) (f : Addr) (fd : FuncData) (ps : List Str) (sp : Sp) : Prop :=
  ∀ (A : Around) (out : List Env) (z : Shared) (H : Hp) (ar : Args) (us : List Value) (vs : List V) (Q : VK) (E : XK), A.guards = some [] → Room k A → Env0 P w K mg base A out z H → BindsTo z fd ar (ps.zip us) → Vals vs us → sp vs H Q E →
    codeAny (model P w) A (.call (.ref f) ar) (CR CX0 out P w H z Q E) z
theorem run_guard {P : Program} {w : World} {K : PySem.W.Frag} {mg : Str → Option Value} {base : Heap} {x qual : Str} {st : Stmt} {f : Addr} {fd : FuncData} {N ps : List Str} {k : Nat} {sp : Sp} (F : Fun K x qual st f fd) (S : FnScope N ps (defScope st)) (ln : ∀ vs H Q E, sp vs H Q E → vs.length = ps.length)
    (go : ∀ (cdv : Value) (A : Around) (out : List Env) (z : Shared) (H : Hp) (vs : List V) (Q : VK) (E : XK), A.guards = some [] → Room k (A.deeper (envOfC qual (defScope st) z.heap.objs.size f cdv)) → sp vs H Q E →
      ∃ t, PSs (cxOf CX0 P w K mg base N qual (defScope st) f cdv A out z H E).nox (defBody st) t ∧ t { nx := fun _ H' => Q .non H', rt := Q } (start N vs) H) : RunG P w K mg base (k + 1) f fd ps sp := by
  obtain ⟨oc, od, kV, dc, pm, an, cdv, ct, sl, rfl, look, cod⟩ := F.ex
  intro A out z H ar us vs Q E gd room en bi rel say
  have many := ln _ _ _ _ say
  have inK : K.In z.heap := en.mod.kin.keeps fun c o q => (en.bs c o q).1
  have noL : z.heap.NoLimit := en.mod.nolimit.keeps fun c o q => (en.bs c o q).1
  have kinds : ∀ y ∈ ps.zip us, (defScope st).names.lookup y.1 = some .local ∨ ((defScope st).names.lookup y.1 = some .cell ∧ ((cellsFrom (z.heap.objs.size + 1) (defScope st).names []).lookup y.1).isSome = true) := by
    rintro ⟨n, v⟩ hy
    rcases S.par n (List.of_mem_zip hy).1 with c | c
    · exact .inl c
    · exact .inr ⟨c, PySem.W.cellsFrom_some _ _ _ (.inl c)⟩
  refine codeAny_call_function room.depth (inK _ _ look) rfl S.co S.gen rfl (PySem.W.codeRec_of inK cod) (bi _ _ _ _ ?_)
  refine wpAny_newFunctionEnv_cells S.kind kinds fun en2 eqn z1 calls => ?_
  subst eqn
  refine ⟨noL.keeps calls.toInCall.keep, codeAny_func ?_⟩
  obtain ⟨t, der, val⟩ := go cdv A out z H vs Q E gd (room.deeper _) say
  have inv : Inv (cxOf CX0 P w K mg base N qual (defScope st) f cdv A out z H E) [] (start N vs) H z1 := inv_start S room.hd en many rel calls
  refine wpAny_mono (der.nox.run [] z1 (start N vs) H _ inv val) (fun fl z2 hz => ?_) fun er z2 hz => hz
  cases fl with
  | ret u =>
    obtain ⟨v, σ2, H2, J, rv, qv⟩ := hz
    exact ⟨v, H2, J.os, J.bare, J.base, J.hok, rv, qv⟩
  | next =>
    obtain ⟨σ2, H2, J, qv⟩ := hz
    exact ⟨V.non, H2, J.os, J.bare, J.base, J.hok, rfl, qv⟩
  | brk =>
    obtain ⟨_, _, _, no⟩ := hz
    exact False.elim no
  | cont =>
    obtain ⟨_, _, _, no⟩ := hz
    exact False.elim no
theorem ints_vals : ∀ {us : List Value} {ms : List Int}, IntsAre us ms → Vals (ms.map V.int) us
  | _, _, .nil => .nil
  | _, _, .cons _ t q => .cons ⟨t, rfl⟩ (ints_vals q)
theorem begin_law {P : Program} {w : World} {K : PySem.W.Frag} {mg mb : Str → Option Value} {k : Nat} {fa a : Addr} {fd : FuncData} {x : Str} {sp : Sp} {z : Shared} {vs : List Value} {ns : List Int}
    (KX : K.In z.heap) (gm : z.heap.Ns mainGlobals mg) (gb : z.heap.Ns builtinsNs mb) (bt : ∀ y : Str, y ≠ "__name__" → mb y = bootBuiltins y) (nl : z.heap.NoLimit) (ng : z.gens = #[])
    (ha : z.heap.get? a = some { cls := .type "list", data := .seq vs.toArray }) (hi : IntsAre vs ns) (hl : ns.length ≤ sizeLine) (room : Room k callerA)
    (F : ∀ base : Heap, K.In base → base.Ns mainGlobals mg → RunG P w K mg base k fa fd [x] sp) (bind : ∀ (s : Shared) (u : Value), BindsTo s fd ⟨[u], []⟩ [(x, u)])
    (hsp : ∀ H : Hp, SqL K H a (ns.map V.int) → sp [.ref a] H (fun v _ => v = .bl true) fun _ _ _ => False) :
    codeAny (model P w) callerA (.call (.ref fa) ⟨[.ref a], []⟩) (fun r z' => r = .ok (.ret (.bool true)) ∧ OldK z.heap z'.heap ∧ z'.os = z.os ∧ AllBare z'.gens) z := by
  have rel := ints_vals hi
  have len := hi.length
  -- what is tracked: the script, where the module does not hold it itself
  obtain ⟨H, ok, sq, only⟩ : ∃ H : Hp, HOk P w H z.heap ∧ SqL K H a (ns.map V.int) ∧ ∀ c, H c = none ∨ (c = a ∧ K.lookup a = none ∧ ∃ o y, H c = some (.frz o (.lst y))) := by
    cases e : K.lookup a with
    | some o =>
      have e2 := (KX a o e).symm.trans ha
      cases e2
      exact ⟨fun _ => none, fun _ _ h => (by cases h), .inr ⟨_, vs.toArray, _, e, rfl, rfl, rfl, by rw [List.size_toArray, len]; exact hl, by simpa using rel⟩, fun _ => .inl rfl⟩
    | none =>
      refine ⟨fun c => if c = a then some (.frz { cls := .type "list", data := .seq vs.toArray } (.lst (ns.map V.int))) else none, fun c o h => ?_, .inl (.inr ⟨_, if_pos rfl⟩), fun c => ?_⟩
      · by_cases hc : c = a
        · subst hc
          have h2 := (if_pos rfl).symm.trans h
          cases h2
          exact ⟨ha, by rw [List.length_map]; exact hl, vs, _, rel, ha⟩
        · have h2 := (if_neg hc).symm.trans h
          cases h2
      · by_cases hc : c = a
        · exact .inr ⟨hc, rfl, _, _, if_pos hc⟩
        · exact .inl (if_neg hc)
  have stay : ∀ {c : Addr} {o : Obj}, z.heap.get? c = some o → (c = a → K.lookup a = none → False) → (hidT z.heap H).get? c = some o := fun {c o} e no => by
    rcases only c with n | ⟨e1, e2, _⟩
    · exact hidT_get e n
    · exact (no e1 e2).elim
  have names : ∀ {c : Addr} {m : Str → Option Value}, z.heap.Ns c m → (hidT z.heap H).Ns c m := fun {c m} ⟨o, es, ep, e, d, rest⟩ => by
    refine ⟨o, es, ep, stay e fun e1 _ => ?_, d, rest⟩
    subst e1
    rw [ha] at e
    cases e
    cases d
  have part : K.In (hidT z.heap H) := fun c o e => stay (KX c o e) fun e1 e2 => by
    subst e1
    rw [e2] at e
    cases e
  have md : Mod K mg (hidT z.heap H) := ⟨part, names gm, ⟨mb, names gb, bt⟩, let ⟨mc, q1, q2⟩ := nl; ⟨mc, names q1, q2⟩⟩
  have en : Env0 P w K mg (hidT z.heap H) callerA [] z H := ⟨rfl, md, fun c o e => of_hidT e, Nat.le_of_eq (hidT_size _ _), trivial, fun c hc => (by cases (show c ∈ ([] : List Addr) from hc)), ok, .of_eq ng⟩
  refine codeAny_mono (F _ part (names gm) callerA [] z H ⟨[.ref a], []⟩ [.ref a] [.ref a] _ _ rfl room en (bind z (.ref a)) (.cons rfl .nil) (hsp H sq)) fun r z' h => ?_
  cases r with
  | error e => exact False.elim h
  | ok fl =>
    cases fl with
    | next => exact False.elim h
    | brk => exact False.elim h
    | cont => exact False.elim h
    | ret u =>
      obtain ⟨v, H', hos, hbare, un, hok', hv, hq⟩ := h
      have hq' : v = .bl true := hq
      subst hq'
      obtain rfl : u = Value.bool true := hv
      refine ⟨rfl, OldK.of_keep fun c o e => ?_, hos, hbare⟩
      rcases only c with n | ⟨_, _, ob, y, n⟩
      · exact un.keep c o e n (fun m => by cases (show c ∈ ([] : List Addr) from m)) (fun m => by cases m)
      · have e1 := (ok c _ n).1
        have e2 := (hok' c _ (un.frzs c ob _ n)).1
        rw [e] at e1
        cases e1
        exact e2
end S2
namespace S2
open PySem L2
def spLaw (K : PySem.W.Frag) : Sp := fun vs H Q _ => ∃ (a : Addr) (ns : List Int), vs = [.ref a] ∧ SqL K H a (ns.map V.int) ∧ ns.length ≤ 63 ∧ ∀ H', Q (.bl true) H'
section
variable {P : Program} {w : World} {K : PySem.W.Frag} {mg : Str → Option Value} {base : Heap} {D : Defs}
theorem sc_law : FnScope ["script", "state", "store", "kept", "e", "told"] ["script"] (defScope s_law) := ⟨rfl, rfl, rfl, by decide +kernel, rfl, by decide +kernel, by decide +kernel⟩
theorem run_law (O : Ok P K mg D) : RunG P w K mg base 20 D.flaw D.dlaw ["script"] (spLaw K) := by
  have G__law_state : FnOk P w K mg base CX0 1 D.f_law_state D.d_law_state ["script"] (spState K) := ok_state O
  have G__law_draw : FnOk P w K mg base CX0 1 D.f_law_draw D.d_law_draw ["state", "many"] spDraw := ok_draw O
  have G__law_store : FnOk P w K mg base CX0 9 D.f_law_store D.d_law_store ["state"] spStoreD := ok_store O
  have G__law_large : FnOk P w K mg base CX0 2 D.f_law_large D.d_law_large ["state"] spLarge := ok_large O
  have G_check : FnOk P w K mg base (L2.CX P w) 19 D.fcheck D.dcheck ["store"] (spCheck D) := ok_check O
  have G__law_expr : FnOk P w K mg base CX0 7 D.f_law_expr D.d_law_expr ["state", "names", "variables", "deep"] (spExpr 6) := ok_expr O 6
  have G_depth : FnOk P w K mg base CX0 3 D.fdepth D.ddepth ["e"] spDepth := ok_depth O
  have G__law_depth : FnOk P w K mg base CX0 9 D.f_law_depth D.d_law_depth ["e"] (spLD 8) := ok_ld O 8
  refine run_guard O.Flaw sc_law (fun vs H Q E h => ?_) (fun cdv A outer s H vs Q E gd hr h => ?_)
  · obtain ⟨a, ns, rfl, _⟩ := h
    rfl
  obtain ⟨a, ns, rfl, hS, hlen, q⟩ := h
  have nd := sc_law.nd
  have bk : ∀ own scope, blkC ["script", "state", "store", "kept", "e", "told"] (defScope s_law) scope own = true → BlkOk ["script", "state", "store", "kept", "e", "told"] (defScope s_law) scope own := fun own scope h => blkOk_by h
  refine ⟨_, (pss_cons (ps_set (i := 1) nd rfl (Or.inl rfl) (pe_call G__law_state (hr.mono (by omega)) rfl O.m_law_state O.F_law_state.kp O.b_law_state .nil pass0 (pa_cons (pv 0) pa_nil)))
    (pss_cons (ps_set (i := 2) nd rfl (Or.inl rfl) (pe_call G__law_store (hr.mono (by omega)) rfl O.m_law_store O.F_law_store.kp O.b_law_store .nil pass0 (pa_cons (pv 1) pa_nil)))
    (C8.pss_cut (ps_if (pt_cmpR op_eq (pe_call G__law_draw (hr.mono (by omega)) rfl O.m_law_draw O.F_law_draw.kp O.b_law_draw .nil pass0 (pa_cons (pv 1) (pa_cons pe_int pa_nil))) pe_int (nomark _)) (pss_one (ps_set (i := 2) nd rfl (Or.inl rfl) (pe_call G__law_large (hr.mono (by omega)) rfl O.m_law_large O.F_law_large.kp O.b_law_large .nil pass0 (pa_cons (pv 1) pa_nil)))) pss_nil)
    (pss_cons (ps_set (i := 3) nd rfl (Or.inl rfl) (pe_callB (call_repr (show A.guards = some [] from gd) hr) (by rfl) O.zrepr (by decide +kernel) (pa_cons (pv 2) pa_nil)))
    (pss_cons (ps_if (PW.pt (pw_or (pt_cmpR op_notN (pe_callS G_check (hr.mono (by omega)) rfl O.mcheck O.Fcheck.kp O.bcheck (fun σ => passAt takes0 σ) (pa_cons (pv 2) pa_nil)) pe_non (nomark _)) (pw_or1 (pt_cmpR op_ne (pe_callB (call_repr (show A.guards = some [] from gd) hr) (by rfl) O.zrepr (by decide +kernel) (pa_cons (pv 2) pa_nil)) (pv 3) (nomark _))))) (pss_one (ps_ret pe_bl)) pss_nil)
    (pss_cons (ps_set (i := 4) nd rfl (Or.inl rfl) (pe_call G__law_expr (hr.mono (by omega)) rfl O.m_law_expr O.F_law_expr.kp O.b_law_expr .nil pass0 (pa_cons (pv 1) (pa_cons (pe_lst (pa_cons pe_str pa_nil)) (pa_cons pe_int (pa_cons (pe_op op_add pe_int (pe_call G__law_draw (hr.mono (by omega)) rfl O.m_law_draw O.F_law_draw.kp O.b_law_draw .nil pass0 (pa_cons (pv 1) (pa_cons pe_int pa_nil)))) pa_nil))))))
    (pss_cons (ps_set (i := 5) nd rfl (Or.inl rfl) (pe_call G_depth (hr.mono (by omega)) rfl O.mdepth O.Fdepth.kp O.bdepth .nil pass0 (pa_cons (pv 4) pa_nil)))
    (pss_one (ps_ret (pe_and (pe_callB call_isi (by rfl) O.zisinstance PyProof.Rows.boot_isinstance (pa_cons (pv 5) (pa_cons (pe_bltn (v := .ty "int") (by rfl) O.zint PyProof.Rows.boot_int rfl) pa_nil))) (pe_and (pe_not (pe_callB call_isi (by rfl) O.zisinstance PyProof.Rows.boot_isinstance (pa_cons (pv 5) (pa_cons (pe_bltn (v := .ty "bool") (by rfl) O.zbool PyProof.Rows.boot_bool rfl) pa_nil)))) (pe_one (pe_cmpR op_eq (pv 5) (pe_call G__law_depth (hr.mono (by omega)) rfl O.m_law_depth O.F_law_depth.kp O.b_law_depth .nil pass0 (pa_cons (pv 4) pa_nil)) (nomark _)))))))))))))), ?_⟩
  refine ⟨_, rfl, a, ns, rfl, hS, hlen, fun st c H1 s1 nst nc S1 => ?_⟩
  refine ⟨_, rfl, st, c, rfl, S1, fun s v H2 g2 hs hd => ?_⟩
  refine ⟨fun σ H' => ∃ s' v', σ = [some (.ref a), some (.ref st), some v', none, none, none] ∧ Go st c H1 H' ∧ StoreV (Off H' st c) s' v' ∧ chk s' = none ∧ few s', ?_, ?_⟩
  · refine ⟨_, rfl, st, c, 3, rfl, g2.st, by decide, by decide, fun r H3 r0 r3 g3 => ⟨rfl, _, rfl, ite2 (fun cc => ?_) (fun cc => ?_)⟩⟩
    · refine ⟨_, rfl, st, c, rfl, g3.st, fun s' v' H4 g4 hs4 hc hf => ?_⟩
      exact ⟨s', v', rfl, g2.trans (g3.trans g4), hs4, hc, hf⟩
    · exact ⟨s, v, rfl, g2.trans g3, (hs.same (fr_off S1)).same g3.same, hd.chk, hd.few⟩
  rintro σ H3 ⟨s', v', rfl, g3, hs3, hc, hf⟩
  have hs3' := hs3.same (off_same H3 st c)
  obtain ⟨p, _, _, _, _, _, _, rfl, _⟩ := id hs3
  refine ⟨_, rfl, p, stD s', _, _, rfl, fun h hok => st_rv hok hs3', st_nice hc hf, Nat.le_refl _, by decide, ?_⟩
  generalize hx : (stD s').shown = tx
  refine ⟨_, rfl, s', .ref p, rfl, hs3', hf, ?_⟩
  rw [hc]
  intro H4 s4
  have hs4 := hs3'.same s4
  have g4 := Go.of_same g3.st s4
  refine ⟨rfl, _, rfl, iteF ?_⟩
  refine ⟨_, rfl, p, stD s', _, _, rfl, fun h hok => st_rv hok hs4, st_nice hc hf, Nat.le_refl _, by decide, ?_⟩
  rw [hx]
  refine ⟨_, rfl, rfl, _, rfl, iteNS rfl ?_⟩
  refine ⟨_, rfl, (by show 1 ≤ sizeLine; decide), fun nm nnm => ?_⟩
  have gn := Go.new g4.st nnm (.lst [.str "key"])
  obtain ⟨nm1, nm2⟩ := g4.st.free nnm
  refine ⟨_, rfl, st, c, 6, rfl, gn.1.st, by decide, by decide, fun r H5 r0 r6 g5 => ?_⟩
  refine ⟨_, _, rfl, rfl, st, c, nm, [false], 3, 1 + r, rfl, g5.st, nm1, nm2, g5.kept upd_same nm1 nm2, by decide, by decide, by decide, by omega, by omega, fun e v H6 g6 he gd6 dp => ?_⟩
  have he6 := he.same (fr_same _ _)
  refine ⟨_, rfl, e, v, rfl, he6, by omega, fun H7 s7 => ?_⟩
  have he7 := he6.same s7
  refine ⟨_, rfl, V.int (dep e), .ty "int", .type "int", .type "int", true, rfl, .ty "int", .base (.int _), kit_ty (by decide +kernel), true, rfl, iteT ?_⟩
  refine ⟨_, rfl, V.int (dep e), .ty "bool", .type "int", .type "bool", false, rfl, .ty "bool", .base (.int _), kit_ty (by decide +kernel), false, rfl, true, rfl, iteT ?_⟩
  refine ⟨_, rfl, _, rfl, e, v, rfl, he7, by omega, fun H8 s8 => ?_⟩
  have e9 : decide (V.int ((dep e : Nat) : Int) = V.int ((dep e : Nat) : Int)) = true := decide_eq_true rfl
  refine ⟨rfl, ?_⟩
  rw [e9]
  exact q _
end
end S2
namespace S2
open PySem L2
theorem exm_self {K : PySem.W.Frag} {S : Addr} (h1 : PySem.W.subIn K (.ref S) (.type "BaseException") = some true) (h2 : PySem.W.isClsIn K S = true) (h3 : PySem.W.typeIn K (.ref S) = some (.type "type")) (h4 : PySem.W.subIn K (.ref S) (.ref S) = some true) :
    PySem.W.exmOne K (.ref S) (.ref S) = some true := by
  have e1 : (PySem.W.subIn K (.ref S) (.type "BaseException") == some true) = true := by rw [h1] <;> rfl
  have e2 : ((PySem.W.clsIn K S).isSome && PySem.W.typeIn K (.ref S) == some (.type "type")) = true := by
    have h2' : (PySem.W.clsIn K S).isSome = true := h2
    rw [h2', h3] <;> rfl
  show (if (PySem.W.subIn K (.ref S) (.type "BaseException") == some true) = true then (if ((PySem.W.clsIn K S).isSome && PySem.W.typeIn K (.ref S) == some (.type "type")) = true then PySem.W.subIn K (.ref S) (.ref S) else none) else none) = some true
  rw [if_pos e1, if_pos e2]
  exact h4
theorem all_mk {P : Program} {w : World} {K : PySem.W.Frag} {h : Heap} {mg : Str → Option Value} {f1 f2 f3 f4 f5 f6 f7 f8 f9 f10 f11 f12 f13 f14 f15 f16 f17 f18 f19 f20 f21 f22 f23 f24 f25 f26 f27 CSc AL CE fE cdaE ccE CS fa : Addr} {od1 an1 od2 an2 od3 an3 od4 an4 od5 an5 od6 an6 od7 an7 od8 an8 od9 an9 od10 an10 od11 an11 od12 an12 od13 an13 od14 an14 od15 an15 od16 an16 od17 an17 od18 an18 od19 an19 od20 an20 od21 an21 od22 an22 od23 an23 od24 an24 od25 an25 od26 an26 od27 an27 odE anE cddE cldE ddE dL : Option Addr} {m0 m1 m2 m3 m5 : Option Value} {sl1 sl2 sl3 sl4 sl5 sl6 sl7 sl8 sl9 sl10 sl11 sl12 sl13 sl14 sl15 sl16 sl17 sl18 sl19 sl20 sl21 sl22 sl23 sl24 sl25 sl26 sl27 osE ccsE cslE sL : Array (Option Value)} {oc1 kV1 dc1 pm1 cd1 ct1 oc2 kV2 dc2 pm2 cd2 ct2 oc3 kV3 dc3 pm3 cd3 ct3 oc4 kV4 dc4 pm4 cd4 ct4 oc5 kV5 dc5 pm5 cd5 ct5 oc6 kV6 dc6 pm6 cd6 ct6 oc7 kV7 dc7 pm7 cd7 ct7 oc8 kV8 dc8 pm8 cd8 ct8 oc9 kV9 dc9 pm9 cd9 ct9 oc10 kV10 dc10 pm10 cd10 ct10 oc11 kV11 dc11 pm11 cd11 ct11 oc12 kV12 dc12 pm12 cd12 ct12 oc13 kV13 dc13 pm13 cd13 ct13 oc14 kV14 dc14 pm14 cd14 ct14 oc15 kV15 dc15 pm15 cd15 ct15 oc16 kV16 dc16 pm16 cd16 ct16 oc17 kV17 dc17 pm17 cd17 ct17 oc18 kV18 dc18 pm18 cd18 ct18 oc19 kV19 dc19 pm19 cd19 ct19 oc20 kV20 dc20 pm20 cd20 ct20 oc21 kV21 dc21 pm21 cd21 ct21 oc22 kV22 dc22 pm22 cd22 ct22 oc23 kV23 dc23 pm23 cd23 ct23 oc24 kV24 dc24 pm24 cd24 ct24 oc25 kV25 dc25 pm25 cd25 ct25 oc26 kV26 dc26 pm26 cd26 ct26 oc27 kV27 dc27 pm27 cd27 ct27 ocE kVE dcE pmE ctE cclE clE1 : Value} {vsE : Array Value} {nmE qE fileE : Str} {NE : Addr} {bsE subE : List Value} {snE : List Str} {abE : Bool} {colE : Option Bool} {nL : Nat} {u1 u2 u3 u4 tfileE tWORDS tMOST_SECTORS tMOST_WIDTH tMOST_KEYS tMOST_VARIABLES tMOST_STATEMENTS tMOST_ROUNDS tDEEPEST_BODY tDEEPEST_LOOP tDEEPEST_EXPRESSION : Tok} (X : K.In h) (G : h.Ns mainGlobals mg) (hfa : mg "law" = some (.ref fa))
    (aSc : PySem.W.nsIn K mainGlobals "Scope" = some (some (.ref CSc)))
    (a1 : PySem.W.nsIn K mainGlobals "check" = some (some (.ref f1)))
    (l1 : K.lookup f1 = some ⟨oc1, od1, .func (PySem.W.fnOf "check" "check" (defArgs s_check) (defBody s_check) (defScope s_check) .none kV1 dc1 pm1 an1 cd1 ct1), sl1⟩)
    (c1 : PySem.W.codeIn K cd1 "check" = true)
    (k1 : PySem.W.keepIn K (.ref f1) = true)
    (a2 : PySem.W.nsIn K mainGlobals "depth" = some (some (.ref f2)))
    (l2 : K.lookup f2 = some ⟨oc2, od2, .func (PySem.W.fnOf "depth" "depth" (defArgs s_depth) (defBody s_depth) (defScope s_depth) .none kV2 dc2 pm2 an2 cd2 ct2), sl2⟩)
    (c2 : PySem.W.codeIn K cd2 "depth" = true)
    (k2 : PySem.W.keepIn K (.ref f2) = true)
    (a3 : PySem.W.nsIn K mainGlobals "require" = some (some (.ref f3)))
    (l3 : K.lookup f3 = some ⟨oc3, od3, .func (PySem.W.fnOf "require" "require" (defArgs s_require) (defBody s_require) (defScope s_require) .none kV3 dc3 pm3 an3 cd3 ct3), sl3⟩)
    (c3 : PySem.W.codeIn K cd3 "require" = true)
    (k3 : PySem.W.keepIn K (.ref f3) = true)
    (a4 : PySem.W.nsIn K mainGlobals "check_get" = some (some (.ref f4)))
    (l4 : K.lookup f4 = some ⟨oc4, od4, .func (PySem.W.fnOf "check_get" "check_get" (defArgs s_check_get) (defBody s_check_get) (defScope s_check_get) .none kV4 dc4 pm4 an4 cd4 ct4), sl4⟩)
    (c4 : PySem.W.codeIn K cd4 "check_get" = true)
    (k4 : PySem.W.keepIn K (.ref f4) = true)
    (a5 : PySem.W.nsIn K mainGlobals "check_body" = some (some (.ref f5)))
    (l5 : K.lookup f5 = some ⟨oc5, od5, .func (PySem.W.fnOf "check_body" "check_body" (defArgs s_check_body) (defBody s_check_body) (defScope s_check_body) .none kV5 dc5 pm5 an5 cd5 ct5), sl5⟩)
    (c5 : PySem.W.codeIn K cd5 "check_body" = true)
    (k5 : PySem.W.keepIn K (.ref f5) = true)
    (a6 : PySem.W.nsIn K mainGlobals "fits" = some (some (.ref f6)))
    (l6 : K.lookup f6 = some ⟨oc6, od6, .func (PySem.W.fnOf "fits" "fits" (defArgs s_fits) (defBody s_fits) (defScope s_fits) .none kV6 dc6 pm6 an6 cd6 ct6), sl6⟩)
    (c6 : PySem.W.codeIn K cd6 "fits" = true)
    (k6 : PySem.W.keepIn K (.ref f6) = true)
    (a7 : PySem.W.nsIn K mainGlobals "bodies_below" = some (some (.ref f7)))
    (l7 : K.lookup f7 = some ⟨oc7, od7, .func (PySem.W.fnOf "bodies_below" "bodies_below" (defArgs s_bodies_below) (defBody s_bodies_below) (defScope s_bodies_below) .none kV7 dc7 pm7 an7 cd7 ct7), sl7⟩)
    (c7 : PySem.W.codeIn K cd7 "bodies_below" = true)
    (k7 : PySem.W.keepIn K (.ref f7) = true)
    (a8 : PySem.W.nsIn K mainGlobals "bodies_in" = some (some (.ref f8)))
    (l8 : K.lookup f8 = some ⟨oc8, od8, .func (PySem.W.fnOf "bodies_in" "bodies_in" (defArgs s_bodies_in) (defBody s_bodies_in) (defScope s_bodies_in) .none kV8 dc8 pm8 an8 cd8 ct8), sl8⟩)
    (c8 : PySem.W.codeIn K cd8 "bodies_in" = true)
    (k8 : PySem.W.keepIn K (.ref f8) = true)
    (a9 : PySem.W.nsIn K mainGlobals "check_statements" = some (some (.ref f9)))
    (l9 : K.lookup f9 = some ⟨oc9, od9, .func (PySem.W.fnOf "check_statements" "check_statements" (defArgs s_check_statements) (defBody s_check_statements) (defScope s_check_statements) .none kV9 dc9 pm9 an9 cd9 ct9), sl9⟩)
    (c9 : PySem.W.codeIn K cd9 "check_statements" = true)
    (k9 : PySem.W.keepIn K (.ref f9) = true)
    (a10 : PySem.W.nsIn K mainGlobals "check_statement" = some (some (.ref f10)))
    (l10 : K.lookup f10 = some ⟨oc10, od10, .func (PySem.W.fnOf "check_statement" "check_statement" (defArgs s_check_statement) (defBody s_check_statement) (defScope s_check_statement) .none kV10 dc10 pm10 an10 cd10 ct10), sl10⟩)
    (c10 : PySem.W.codeIn K cd10 "check_statement" = true)
    (k10 : PySem.W.keepIn K (.ref f10) = true)
    (a11 : PySem.W.nsIn K mainGlobals "check_write" = some (some (.ref f11)))
    (l11 : K.lookup f11 = some ⟨oc11, od11, .func (PySem.W.fnOf "check_write" "check_write" (defArgs s_check_write) (defBody s_check_write) (defScope s_check_write) .none kV11 dc11 pm11 an11 cd11 ct11), sl11⟩)
    (c11 : PySem.W.codeIn K cd11 "check_write" = true)
    (k11 : PySem.W.keepIn K (.ref f11) = true)
    (a12 : PySem.W.nsIn K mainGlobals "check_variable" = some (some (.ref f12)))
    (l12 : K.lookup f12 = some ⟨oc12, od12, .func (PySem.W.fnOf "check_variable" "check_variable" (defArgs s_check_variable) (defBody s_check_variable) (defScope s_check_variable) .none kV12 dc12 pm12 an12 cd12 ct12), sl12⟩)
    (c12 : PySem.W.codeIn K cd12 "check_variable" = true)
    (k12 : PySem.W.keepIn K (.ref f12) = true)
    (a13 : PySem.W.nsIn K mainGlobals "check_expression" = some (some (.ref f13)))
    (l13 : K.lookup f13 = some ⟨oc13, od13, .func (PySem.W.fnOf "check_expression" "check_expression" (defArgs s_check_expression) (defBody s_check_expression) (defScope s_check_expression) .none kV13 dc13 pm13 an13 cd13 ct13), sl13⟩)
    (c13 : PySem.W.codeIn K cd13 "check_expression" = true)
    (k13 : PySem.W.keepIn K (.ref f13) = true)
    (a14 : PySem.W.nsIn K mainGlobals "too_deep" = some (some (.ref f14)))
    (l14 : K.lookup f14 = some ⟨oc14, od14, .func (PySem.W.fnOf "too_deep" "too_deep" (defArgs s_too_deep) (defBody s_too_deep) (defScope s_too_deep) .none kV14 dc14 pm14 an14 cd14 ct14), sl14⟩)
    (c14 : PySem.W.codeIn K cd14 "too_deep" = true)
    (k14 : PySem.W.keepIn K (.ref f14) = true)
    (a15 : PySem.W.nsIn K mainGlobals "expressions_below" = some (some (.ref f15)))
    (l15 : K.lookup f15 = some ⟨oc15, od15, .func (PySem.W.fnOf "expressions_below" "expressions_below" (defArgs s_expressions_below) (defBody s_expressions_below) (defScope s_expressions_below) .none kV15 dc15 pm15 an15 cd15 ct15), sl15⟩)
    (c15 : PySem.W.codeIn K cd15 "expressions_below" = true)
    (k15 : PySem.W.keepIn K (.ref f15) = true)
    (a16 : PySem.W.nsIn K mainGlobals "expressions_in" = some (some (.ref f16)))
    (l16 : K.lookup f16 = some ⟨oc16, od16, .func (PySem.W.fnOf "expressions_in" "expressions_in" (defArgs s_expressions_in) (defBody s_expressions_in) (defScope s_expressions_in) .none kV16 dc16 pm16 an16 cd16 ct16), sl16⟩)
    (c16 : PySem.W.codeIn K cd16 "expressions_in" = true)
    (k16 : PySem.W.keepIn K (.ref f16) = true)
    (a17 : PySem.W.nsIn K mainGlobals "check_leaves" = some (some (.ref f17)))
    (l17 : K.lookup f17 = some ⟨oc17, od17, .func (PySem.W.fnOf "check_leaves" "check_leaves" (defArgs s_check_leaves) (defBody s_check_leaves) (defScope s_check_leaves) .none kV17 dc17 pm17 an17 cd17 ct17), sl17⟩)
    (c17 : PySem.W.codeIn K cd17 "check_leaves" = true)
    (k17 : PySem.W.keepIn K (.ref f17) = true)
    (a18 : PySem.W.nsIn K mainGlobals "_law_state" = some (some (.ref f18)))
    (l18 : K.lookup f18 = some ⟨oc18, od18, .func (PySem.W.fnOf "_law_state" "_law_state" (defArgs s__law_state) (defBody s__law_state) (defScope s__law_state) .none kV18 dc18 pm18 an18 cd18 ct18), sl18⟩)
    (c18 : PySem.W.codeIn K cd18 "_law_state" = true)
    (k18 : PySem.W.keepIn K (.ref f18) = true)
    (a19 : PySem.W.nsIn K mainGlobals "_law_draw" = some (some (.ref f19)))
    (l19 : K.lookup f19 = some ⟨oc19, od19, .func (PySem.W.fnOf "_law_draw" "_law_draw" (defArgs s__law_draw) (defBody s__law_draw) (defScope s__law_draw) .none kV19 dc19 pm19 an19 cd19 ct19), sl19⟩)
    (c19 : PySem.W.codeIn K cd19 "_law_draw" = true)
    (k19 : PySem.W.keepIn K (.ref f19) = true)
    (a20 : PySem.W.nsIn K mainGlobals "_law_expr" = some (some (.ref f20)))
    (l20 : K.lookup f20 = some ⟨oc20, od20, .func (PySem.W.fnOf "_law_expr" "_law_expr" (defArgs s__law_expr) (defBody s__law_expr) (defScope s__law_expr) .none kV20 dc20 pm20 an20 cd20 ct20), sl20⟩)
    (c20 : PySem.W.codeIn K cd20 "_law_expr" = true)
    (k20 : PySem.W.keepIn K (.ref f20) = true)
    (a21 : PySem.W.nsIn K mainGlobals "_law_statement" = some (some (.ref f21)))
    (l21 : K.lookup f21 = some ⟨oc21, od21, .func (PySem.W.fnOf "_law_statement" "_law_statement" (defArgs s__law_statement) (defBody s__law_statement) (defScope s__law_statement) .none kV21 dc21 pm21 an21 cd21 ct21), sl21⟩)
    (c21 : PySem.W.codeIn K cd21 "_law_statement" = true)
    (k21 : PySem.W.keepIn K (.ref f21) = true)
    (a22 : PySem.W.nsIn K mainGlobals "_law_body" = some (some (.ref f22)))
    (l22 : K.lookup f22 = some ⟨oc22, od22, .func (PySem.W.fnOf "_law_body" "_law_body" (defArgs s__law_body) (defBody s__law_body) (defScope s__law_body) .none kV22 dc22 pm22 an22 cd22 ct22), sl22⟩)
    (c22 : PySem.W.codeIn K cd22 "_law_body" = true)
    (k22 : PySem.W.keepIn K (.ref f22) = true)
    (a23 : PySem.W.nsIn K mainGlobals "_law_store" = some (some (.ref f23)))
    (l23 : K.lookup f23 = some ⟨oc23, od23, .func (PySem.W.fnOf "_law_store" "_law_store" (defArgs s__law_store) (defBody s__law_store) (defScope s__law_store) .none kV23 dc23 pm23 an23 cd23 ct23), sl23⟩)
    (c23 : PySem.W.codeIn K cd23 "_law_store" = true)
    (k23 : PySem.W.keepIn K (.ref f23) = true)
    (a24 : PySem.W.nsIn K mainGlobals "_law_depth" = some (some (.ref f24)))
    (l24 : K.lookup f24 = some ⟨oc24, od24, .func (PySem.W.fnOf "_law_depth" "_law_depth" (defArgs s__law_depth) (defBody s__law_depth) (defScope s__law_depth) .none kV24 dc24 pm24 an24 cd24 ct24), sl24⟩)
    (c24 : PySem.W.codeIn K cd24 "_law_depth" = true)
    (k24 : PySem.W.keepIn K (.ref f24) = true)
    (a25 : PySem.W.nsIn K mainGlobals "_law_large" = some (some (.ref f25)))
    (l25 : K.lookup f25 = some ⟨oc25, od25, .func (PySem.W.fnOf "_law_large" "_law_large" (defArgs s__law_large) (defBody s__law_large) (defScope s__law_large) .none kV25 dc25 pm25 an25 cd25 ct25), sl25⟩)
    (c25 : PySem.W.codeIn K cd25 "_law_large" = true)
    (k25 : PySem.W.keepIn K (.ref f25) = true)
    (a26 : PySem.W.nsIn K mainGlobals "law" = some (some (.ref f26)))
    (l26 : K.lookup f26 = some ⟨oc26, od26, .func (PySem.W.fnOf "law" "law" (defArgs s_law) (defBody s_law) (defScope s_law) .none kV26 dc26 pm26 an26 cd26 ct26), sl26⟩)
    (c26 : PySem.W.codeIn K cd26 "law" = true)
    (k26 : PySem.W.keepIn K (.ref f26) = true)
    (a27 : PySem.W.findIn K (.ref CSc) "__init__" = some (some (.ref f27)))
    (i27 : PySem.W.isFn K (.ref f27) = true)
    (l27 : K.lookup f27 = some ⟨oc27, od27, .func (PySem.W.fnOf "__init__" "Scope.__init__" (defArgs s_Scope__init__) (defBody s_Scope__init__) (defScope s_Scope__init__) .none kV27 dc27 pm27 an27 cd27 ct27), sl27⟩)
    (c27 : PySem.W.codeIn K cd27 "Scope.__init__" = true)
    (k27 : PySem.W.keepIn K (.ref f27) = true)
    (pgS : PySem.W.plainGet K CSc Str.empty = true)
    (hdS : PySem.W.hasDictIn K CSc = true)
    (poS : PySem.W.plainOver K CSc = true)
    (saS : PySem.W.findIn K (.ref CSc) "__setattr__" = some (some (.builtin "object.__setattr__")))
    (mkS : PySem.W.makesIn K CSc = true)
    (kcS : PySem.W.keepIn K (.ref CSc) = true)
    (nwidth : PySem.W.findIn K (.ref CSc) "width" = some none)
    (nvariables : PySem.W.findIn K (.ref CSc) "variables" = some none)
    (narguments : PySem.W.findIn K (.ref CSc) "arguments" = some none)
    (nwrites : PySem.W.findIn K (.ref CSc) "writes" = some none)
    (zlen : PySem.W.nsIn K mainGlobals "len" = some none)
    (zint : PySem.W.nsIn K mainGlobals "int" = some none)
    (zabs : PySem.W.nsIn K mainGlobals "abs" = some none)
    (zrange : PySem.W.nsIn K mainGlobals "range" = some none)
    (zisinstance : PySem.W.nsIn K mainGlobals "isinstance" = some none)
    (zbool : PySem.W.nsIn K mainGlobals "bool" = some none)
    (zsum : PySem.W.nsIn K mainGlobals "sum" = some none)
    (zany : PySem.W.nsIn K mainGlobals "any" = some none)
    (zlist : PySem.W.nsIn K mainGlobals "list" = some none)
    (ztuple : PySem.W.nsIn K mainGlobals "tuple" = some none)
    (zmax : PySem.W.nsIn K mainGlobals "max" = some none)
    (zrepr : PySem.W.nsIn K mainGlobals "repr" = some none)
    (zsuper : PySem.W.nsIn K mainGlobals "super" = some none)
    (wWORDS : PySem.W.nsIn K mainGlobals "WORDS" = some (some (.int 16 tWORDS)))
    (wMOST_SECTORS : PySem.W.nsIn K mainGlobals "MOST_SECTORS" = some (some (.int 6 tMOST_SECTORS)))
    (wMOST_WIDTH : PySem.W.nsIn K mainGlobals "MOST_WIDTH" = some (some (.int 4 tMOST_WIDTH)))
    (wMOST_KEYS : PySem.W.nsIn K mainGlobals "MOST_KEYS" = some (some (.int 3 tMOST_KEYS)))
    (wMOST_VARIABLES : PySem.W.nsIn K mainGlobals "MOST_VARIABLES" = some (some (.int 8 tMOST_VARIABLES)))
    (wMOST_STATEMENTS : PySem.W.nsIn K mainGlobals "MOST_STATEMENTS" = some (some (.int 60 tMOST_STATEMENTS)))
    (wMOST_ROUNDS : PySem.W.nsIn K mainGlobals "MOST_ROUNDS" = some (some (.int 8 tMOST_ROUNDS)))
    (wDEEPEST_BODY : PySem.W.nsIn K mainGlobals "DEEPEST_BODY" = some (some (.int 4 tDEEPEST_BODY)))
    (wDEEPEST_LOOP : PySem.W.nsIn K mainGlobals "DEEPEST_LOOP" = some (some (.int 2 tDEEPEST_LOOP)))
    (wDEEPEST_EXPRESSION : PySem.W.nsIn K mainGlobals "DEEPEST_EXPRESSION" = some (some (.int 5 tDEEPEST_EXPRESSION)))
    (aL : PySem.W.nsIn K mainGlobals "LEAVES" = some (some (.ref AL)))
    (lL : K.lookup AL = some ⟨.type "tuple", dL, .seq #[.str "num" u1, .str "var" u2, .str "key" u3, .str "value" u4] nL, sL⟩)
    (aE : PySem.W.nsIn K mainGlobals "StoreError" = some (some (.ref CE)))
    (xE : K.lookup CE = some (excClassObj nmE qE CE NE bsE [.ref CS, .type "ValueError", .type "Exception", .type "BaseException", .type "object"] true snE subE abE colE ddE m0 m1 m2 m3 m5 "ValueError.__new__"))
    (hbE : PySem.HandSPX.refsVE [.ref CS, .type "ValueError", .type "Exception", .type "BaseException", .type "object"] = true)
    (saE : PySem.W.findIn K (.ref CE) "__setattr__" = some (some (.builtin "object.__setattr__")))
    (eE : PySem.W.subIn K (.ref CE) (.type "BaseException") = some true)
    (tE : PySem.W.typeIn K (.ref CE) = some (.type "type"))
    (kE : PySem.W.keepIn K (.ref CE) = true)
    (nE : PySem.W.findIn K (.ref CE) "rule" = some none)
    (iE : PySem.W.findIn K (.ref CE) "__init__" = some (some (.ref fE)))
    (tfE : PySem.W.typeIn K (.ref fE) = some (.type "function"))
    (suE : PySem.W.ks_superIn K CE CE "__init__" = some (some (.builtin "ValueError.__init__")))
    (inE : PySem.W.subIn K (.ref CE) (.type "ValueError") = some true)
    (mrE : PySem.W.mroIn K CE (.ref CE) = some true)
    (clE : PySem.W.isClsIn K CE = true)
    (tpE : PySem.W.nsIn K cStatics "thirdparty.any" = some none)
    (toE : (P.main.scope.names.lookup ("super" : Str)).isSome = false)
    (lE : K.lookup fE = some ⟨ocE, odE, .func (PySem.W.ksFn "__init__" "StoreError.__init__" (defArgs s_StoreError__init__) (defBody s_StoreError__init__) (defScope s_StoreError__init__) .none kVE dcE pmE anE (.ref cdaE) ctE ccE), osE⟩)
    (cE : PySem.W.codeIn K (.ref cdaE) "StoreError.__init__" = true)
    (lcE : K.lookup cdaE = some ⟨cclE, cddE, .fields vsE, ccsE⟩)
    (vE : vsE[2]? = some (.str fileE tfileE))
    (fiE : ((P.main.file : Str) == fileE) = true)
    (ceE : K.lookup ccE = some ⟨clE1, cldE, .cell (some (.ref CE)), cslE⟩) :
    ∃ fd : FuncData, (∀ (s : Shared) (v : Value), BindsTo s fd ⟨[v], []⟩ [("script", v)]) ∧ ∀ base : Heap, K.In base → base.Ns mainGlobals mg → RunG P w K mg base 20 fa fd ["script"] (spLaw K) := by
  have e := hfa.symm.trans (PySem.W.mg_of X G a26)
  cases e
  have F1 := fun_mk (st := s_check) l1 c1 k1
  have b1 := F1.binds (ps := ["store"]) fun _ _ _ _ _ _ us hl => match us, hl with | [_], _ => rfl
  have F2 := fun_mk (st := s_depth) l2 c2 k2
  have b2 := F2.binds (ps := ["e"]) fun _ _ _ _ _ _ us hl => match us, hl with | [_], _ => rfl
  have F3 := fun_mk (st := s_require) l3 c3 k3
  have b3 := F3.binds (ps := ["kept", "rule"]) fun _ _ _ _ _ _ us hl => match us, hl with | [_, _], _ => rfl
  have F4 := fun_mk (st := s_check_get) l4 c4 k4
  have b4 := F4.binds (ps := ["get", "scope"]) fun _ _ _ _ _ _ us hl => match us, hl with | [_, _], _ => rfl
  have F5 := fun_mk (st := s_check_body) l5 c5 k5
  have b5 := F5.binds (ps := ["body", "scope"]) fun _ _ _ _ _ _ us hl => match us, hl with | [_, _], _ => rfl
  have F6 := fun_mk (st := s_fits) l6 c6 k6
  have b6 := F6.binds (ps := ["body"]) fun _ _ _ _ _ _ us hl => match us, hl with | [_], _ => rfl
  have F7 := fun_mk (st := s_bodies_below) l7 c7 k7
  have b7 := F7.binds (ps := ["layer"]) fun _ _ _ _ _ _ us hl => match us, hl with | [_], _ => rfl
  have F8 := fun_mk (st := s_bodies_in) l8 c8 k8
  have b8 := F8.binds (ps := ["statement"]) fun _ _ _ _ _ _ us hl => match us, hl with | [_], _ => rfl
  have F9 := fun_mk (st := s_check_statements) l9 c9 k9
  have b9 := F9.binds (ps := ["body", "scope"]) fun _ _ _ _ _ _ us hl => match us, hl with | [_, _], _ => rfl
  have F10 := fun_mk (st := s_check_statement) l10 c10 k10
  have b10 := F10.binds (ps := ["statement", "scope"]) fun _ _ _ _ _ _ us hl => match us, hl with | [_, _], _ => rfl
  have F11 := fun_mk (st := s_check_write) l11 c11 k11
  have b11 := F11.binds (ps := ["statement", "scope"]) fun _ _ _ _ _ _ us hl => match us, hl with | [_, _], _ => rfl
  have F12 := fun_mk (st := s_check_variable) l12 c12 k12
  have b12 := F12.binds (ps := ["v", "scope"]) fun _ _ _ _ _ _ us hl => match us, hl with | [_, _], _ => rfl
  have F13 := fun_mk (st := s_check_expression) l13 c13 k13
  have b13 := F13.binds (ps := ["e", "scope"]) fun _ _ _ _ _ _ us hl => match us, hl with | [_, _], _ => rfl
  have F14 := fun_mk (st := s_too_deep) l14 c14 k14
  have b14 := F14.binds (ps := ["e"]) fun _ _ _ _ _ _ us hl => match us, hl with | [_], _ => rfl
  have F15 := fun_mk (st := s_expressions_below) l15 c15 k15
  have b15 := F15.binds (ps := ["layer"]) fun _ _ _ _ _ _ us hl => match us, hl with | [_], _ => rfl
  have F16 := fun_mk (st := s_expressions_in) l16 c16 k16
  have b16 := F16.binds (ps := ["e"]) fun _ _ _ _ _ _ us hl => match us, hl with | [_], _ => rfl
  have F17 := fun_mk (st := s_check_leaves) l17 c17 k17
  have b17 := F17.binds (ps := ["e", "scope"]) fun _ _ _ _ _ _ us hl => match us, hl with | [_, _], _ => rfl
  have F18 := fun_mk (st := s__law_state) l18 c18 k18
  have b18 := F18.binds (ps := ["script"]) fun _ _ _ _ _ _ us hl => match us, hl with | [_], _ => rfl
  have F19 := fun_mk (st := s__law_draw) l19 c19 k19
  have b19 := F19.binds (ps := ["state", "many"]) fun _ _ _ _ _ _ us hl => match us, hl with | [_, _], _ => rfl
  have F20 := fun_mk (st := s__law_expr) l20 c20 k20
  have b20 := F20.binds (ps := ["state", "names", "variables", "deep"]) fun _ _ _ _ _ _ us hl => match us, hl with | [_, _, _, _], _ => rfl
  have F21 := fun_mk (st := s__law_statement) l21 c21 k21
  have b21 := F21.binds (ps := ["state", "shape", "names", "writes", "nested"]) fun _ _ _ _ _ _ us hl => match us, hl with | [_, _, _, _, _], _ => rfl
  have F22 := fun_mk (st := s__law_body) l22 c22 k22
  have b22 := F22.binds (ps := ["state", "shape", "names", "writes", "nested"]) fun _ _ _ _ _ _ us hl => match us, hl with | [_, _, _, _, _], _ => rfl
  have F23 := fun_mk (st := s__law_store) l23 c23 k23
  have b23 := F23.binds (ps := ["state"]) fun _ _ _ _ _ _ us hl => match us, hl with | [_], _ => rfl
  have F24 := fun_mk (st := s__law_depth) l24 c24 k24
  have b24 := F24.binds (ps := ["e"]) fun _ _ _ _ _ _ us hl => match us, hl with | [_], _ => rfl
  have F25 := fun_mk (st := s__law_large) l25 c25 k25
  have b25 := F25.binds (ps := ["state"]) fun _ _ _ _ _ _ us hl => match us, hl with | [_], _ => rfl
  have F26 := fun_mk (st := s_law) l26 c26 k26
  have b26 := F26.binds (ps := ["script"]) fun _ _ _ _ _ _ us hl => match us, hl with | [_], _ => rfl
  have F27 := fun_mk (st := s_Scope__init__) l27 c27 k27
  have b27 := F27.binds (ps := ["self", "width", "variables", "arguments", "writes"]) fun _ _ _ _ _ _ us hl => match us, hl with | [_, _, _, _, _], _ => rfl
  have O : Ok P K mg { fcheck := f1, dcheck := PySem.W.fnOf "check" "check" (defArgs s_check) (defBody s_check) (defScope s_check) .none kV1 dc1 pm1 an1 cd1 ct1, fdepth := f2, ddepth := PySem.W.fnOf "depth" "depth" (defArgs s_depth) (defBody s_depth) (defScope s_depth) .none kV2 dc2 pm2 an2 cd2 ct2, frequire := f3, drequire := PySem.W.fnOf "require" "require" (defArgs s_require) (defBody s_require) (defScope s_require) .none kV3 dc3 pm3 an3 cd3 ct3, fcheck_get := f4, dcheck_get := PySem.W.fnOf "check_get" "check_get" (defArgs s_check_get) (defBody s_check_get) (defScope s_check_get) .none kV4 dc4 pm4 an4 cd4 ct4, fcheck_body := f5, dcheck_body := PySem.W.fnOf "check_body" "check_body" (defArgs s_check_body) (defBody s_check_body) (defScope s_check_body) .none kV5 dc5 pm5 an5 cd5 ct5, ffits := f6, dfits := PySem.W.fnOf "fits" "fits" (defArgs s_fits) (defBody s_fits) (defScope s_fits) .none kV6 dc6 pm6 an6 cd6 ct6, fbodies_below := f7, dbodies_below := PySem.W.fnOf "bodies_below" "bodies_below" (defArgs s_bodies_below) (defBody s_bodies_below) (defScope s_bodies_below) .none kV7 dc7 pm7 an7 cd7 ct7, fbodies_in := f8, dbodies_in := PySem.W.fnOf "bodies_in" "bodies_in" (defArgs s_bodies_in) (defBody s_bodies_in) (defScope s_bodies_in) .none kV8 dc8 pm8 an8 cd8 ct8, fcheck_statements := f9, dcheck_statements := PySem.W.fnOf "check_statements" "check_statements" (defArgs s_check_statements) (defBody s_check_statements) (defScope s_check_statements) .none kV9 dc9 pm9 an9 cd9 ct9, fcheck_statement := f10, dcheck_statement := PySem.W.fnOf "check_statement" "check_statement" (defArgs s_check_statement) (defBody s_check_statement) (defScope s_check_statement) .none kV10 dc10 pm10 an10 cd10 ct10, fcheck_write := f11, dcheck_write := PySem.W.fnOf "check_write" "check_write" (defArgs s_check_write) (defBody s_check_write) (defScope s_check_write) .none kV11 dc11 pm11 an11 cd11 ct11, fcheck_variable := f12, dcheck_variable := PySem.W.fnOf "check_variable" "check_variable" (defArgs s_check_variable) (defBody s_check_variable) (defScope s_check_variable) .none kV12 dc12 pm12 an12 cd12 ct12, fcheck_expression := f13, dcheck_expression := PySem.W.fnOf "check_expression" "check_expression" (defArgs s_check_expression) (defBody s_check_expression) (defScope s_check_expression) .none kV13 dc13 pm13 an13 cd13 ct13, ftoo_deep := f14, dtoo_deep := PySem.W.fnOf "too_deep" "too_deep" (defArgs s_too_deep) (defBody s_too_deep) (defScope s_too_deep) .none kV14 dc14 pm14 an14 cd14 ct14, fexpressions_below := f15, dexpressions_below := PySem.W.fnOf "expressions_below" "expressions_below" (defArgs s_expressions_below) (defBody s_expressions_below) (defScope s_expressions_below) .none kV15 dc15 pm15 an15 cd15 ct15, fexpressions_in := f16, dexpressions_in := PySem.W.fnOf "expressions_in" "expressions_in" (defArgs s_expressions_in) (defBody s_expressions_in) (defScope s_expressions_in) .none kV16 dc16 pm16 an16 cd16 ct16, fcheck_leaves := f17, dcheck_leaves := PySem.W.fnOf "check_leaves" "check_leaves" (defArgs s_check_leaves) (defBody s_check_leaves) (defScope s_check_leaves) .none kV17 dc17 pm17 an17 cd17 ct17, f_law_state := f18, d_law_state := PySem.W.fnOf "_law_state" "_law_state" (defArgs s__law_state) (defBody s__law_state) (defScope s__law_state) .none kV18 dc18 pm18 an18 cd18 ct18, f_law_draw := f19, d_law_draw := PySem.W.fnOf "_law_draw" "_law_draw" (defArgs s__law_draw) (defBody s__law_draw) (defScope s__law_draw) .none kV19 dc19 pm19 an19 cd19 ct19, f_law_expr := f20, d_law_expr := PySem.W.fnOf "_law_expr" "_law_expr" (defArgs s__law_expr) (defBody s__law_expr) (defScope s__law_expr) .none kV20 dc20 pm20 an20 cd20 ct20, f_law_statement := f21, d_law_statement := PySem.W.fnOf "_law_statement" "_law_statement" (defArgs s__law_statement) (defBody s__law_statement) (defScope s__law_statement) .none kV21 dc21 pm21 an21 cd21 ct21, f_law_body := f22, d_law_body := PySem.W.fnOf "_law_body" "_law_body" (defArgs s__law_body) (defBody s__law_body) (defScope s__law_body) .none kV22 dc22 pm22 an22 cd22 ct22, f_law_store := f23, d_law_store := PySem.W.fnOf "_law_store" "_law_store" (defArgs s__law_store) (defBody s__law_store) (defScope s__law_store) .none kV23 dc23 pm23 an23 cd23 ct23, f_law_depth := f24, d_law_depth := PySem.W.fnOf "_law_depth" "_law_depth" (defArgs s__law_depth) (defBody s__law_depth) (defScope s__law_depth) .none kV24 dc24 pm24 an24 cd24 ct24, f_law_large := f25, d_law_large := PySem.W.fnOf "_law_large" "_law_large" (defArgs s__law_large) (defBody s__law_large) (defScope s__law_large) .none kV25 dc25 pm25 an25 cd25 ct25, flaw := f26, dlaw := PySem.W.fnOf "law" "law" (defArgs s_law) (defBody s_law) (defScope s_law) .none kV26 dc26 pm26 an26 cd26 ct26, cScope := CSc, fScope := f27, dScope := PySem.W.fnOf "__init__" "Scope.__init__" (defArgs s_Scope__init__) (defBody s_Scope__init__) (defScope s_Scope__init__) .none kV27 dc27 pm27 an27 cd27 ct27, cErr := CE, fErr := fE, leaves := AL } :=
    { Fcheck := F1,
      bcheck := b1,
      mcheck := PySem.W.mg_of X G a1,
      Fdepth := F2,
      bdepth := b2,
      mdepth := PySem.W.mg_of X G a2,
      Frequire := F3,
      brequire := b3,
      mrequire := PySem.W.mg_of X G a3,
      Fcheck_get := F4,
      bcheck_get := b4,
      mcheck_get := PySem.W.mg_of X G a4,
      Fcheck_body := F5,
      bcheck_body := b5,
      mcheck_body := PySem.W.mg_of X G a5,
      Ffits := F6,
      bfits := b6,
      mfits := PySem.W.mg_of X G a6,
      Fbodies_below := F7,
      bbodies_below := b7,
      mbodies_below := PySem.W.mg_of X G a7,
      Fbodies_in := F8,
      bbodies_in := b8,
      mbodies_in := PySem.W.mg_of X G a8,
      Fcheck_statements := F9,
      bcheck_statements := b9,
      mcheck_statements := PySem.W.mg_of X G a9,
      Fcheck_statement := F10,
      bcheck_statement := b10,
      mcheck_statement := PySem.W.mg_of X G a10,
      Fcheck_write := F11,
      bcheck_write := b11,
      mcheck_write := PySem.W.mg_of X G a11,
      Fcheck_variable := F12,
      bcheck_variable := b12,
      mcheck_variable := PySem.W.mg_of X G a12,
      Fcheck_expression := F13,
      bcheck_expression := b13,
      mcheck_expression := PySem.W.mg_of X G a13,
      Ftoo_deep := F14,
      btoo_deep := b14,
      mtoo_deep := PySem.W.mg_of X G a14,
      Fexpressions_below := F15,
      bexpressions_below := b15,
      mexpressions_below := PySem.W.mg_of X G a15,
      Fexpressions_in := F16,
      bexpressions_in := b16,
      mexpressions_in := PySem.W.mg_of X G a16,
      Fcheck_leaves := F17,
      bcheck_leaves := b17,
      mcheck_leaves := PySem.W.mg_of X G a17,
      F_law_state := F18,
      b_law_state := b18,
      m_law_state := PySem.W.mg_of X G a18,
      F_law_draw := F19,
      b_law_draw := b19,
      m_law_draw := PySem.W.mg_of X G a19,
      F_law_expr := F20,
      b_law_expr := b20,
      m_law_expr := PySem.W.mg_of X G a20,
      F_law_statement := F21,
      b_law_statement := b21,
      m_law_statement := PySem.W.mg_of X G a21,
      F_law_body := F22,
      b_law_body := b22,
      m_law_body := PySem.W.mg_of X G a22,
      F_law_store := F23,
      b_law_store := b23,
      m_law_store := PySem.W.mg_of X G a23,
      F_law_depth := F24,
      b_law_depth := b24,
      m_law_depth := PySem.W.mg_of X G a24,
      F_law_large := F25,
      b_law_large := b25,
      m_law_large := PySem.W.mg_of X G a25,
      Flaw := F26,
      blaw := b26,
      mlaw := PySem.W.mg_of X G a26,
      FScope := F27,
      bScope := b27,
      mScope := PySem.W.mg_of X G aSc,
      clScope := ⟨pgS, hdS, poS, saS⟩,
      mkScope := ⟨mkS, a27, i27, kcS⟩,
      nwidth := nwidth,
      nvariables := nvariables,
      narguments := narguments,
      nwrites := nwrites,
      zlen := PySem.W.mg_none_of X G zlen,
      zint := PySem.W.mg_none_of X G zint,
      zabs := PySem.W.mg_none_of X G zabs,
      zrange := PySem.W.mg_none_of X G zrange,
      zisinstance := PySem.W.mg_none_of X G zisinstance,
      zbool := PySem.W.mg_none_of X G zbool,
      zsum := PySem.W.mg_none_of X G zsum,
      zany := PySem.W.mg_none_of X G zany,
      zlist := PySem.W.mg_none_of X G zlist,
      ztuple := PySem.W.mg_none_of X G ztuple,
      zmax := PySem.W.mg_none_of X G zmax,
      zrepr := PySem.W.mg_none_of X G zrepr,
      zsuper := PySem.W.mg_none_of X G zsuper,
      kWORDS := ⟨_, PySem.W.mg_of X G wWORDS⟩,
      kMOST_SECTORS := ⟨_, PySem.W.mg_of X G wMOST_SECTORS⟩,
      kMOST_WIDTH := ⟨_, PySem.W.mg_of X G wMOST_WIDTH⟩,
      kMOST_KEYS := ⟨_, PySem.W.mg_of X G wMOST_KEYS⟩,
      kMOST_VARIABLES := ⟨_, PySem.W.mg_of X G wMOST_VARIABLES⟩,
      kMOST_STATEMENTS := ⟨_, PySem.W.mg_of X G wMOST_STATEMENTS⟩,
      kMOST_ROUNDS := ⟨_, PySem.W.mg_of X G wMOST_ROUNDS⟩,
      kDEEPEST_BODY := ⟨_, PySem.W.mg_of X G wDEEPEST_BODY⟩,
      kDEEPEST_LOOP := ⟨_, PySem.W.mg_of X G wDEEPEST_LOOP⟩,
      kDEEPEST_EXPRESSION := ⟨_, PySem.W.mg_of X G wDEEPEST_EXPRESSION⟩,
      kLEAVES := PySem.W.mg_of X G aL,
      lLEAVES := fun H => .inr ⟨_, _, _, lL, rfl, rfl, (by show 4 ≤ sizeLine; decide), .cons ⟨_, rfl⟩ (.cons ⟨_, rfl⟩ (.cons ⟨_, rfl⟩ (.cons ⟨_, rfl⟩ .nil)))⟩,
      err := { gC := PySem.W.mg_of X G aE, ox := ⟨⟨_, _, _, _, _, _, _, _, _, _, _, _, _, _, _, xE, hbE⟩, saE, eE, tE, kE⟩, noN := nE, iC := iE, tC := tfE, sup := suE, inB := inE, mro := mrE, cls := clE, noS := PySem.W.mg_none_of X G zsuper, tp := tpE, top := toE, fn := ⟨_, _, _, _, _, _, _, _, _, _, _, _, _, _, _, _, _, _, _, lE, cE, lcE, vE, fiE, ceE⟩ } }
  exact ⟨PySem.W.fnOf "law" "law" (defArgs s_law) (defBody s_law) (defScope s_law) .none kV26 dc26 pm26 an26 cd26 ct26, fun s v => .of_eq rfl, fun base _ _ => run_law O⟩
theorem walk {l : PySem.W.OpenLaw} {q : Program} {loose : List Str} {XP : (Str → Option Value) → Heap → Prop} {YP : World → Heap → Prop} {d : DefRec} {K : Params → PySem.W.Frag} (most : l.most = some 63) (plain : d.params.defaults = [])
    (inK : ∀ (w : World) (g : Heap), YP w g → (K w.params).In g)
    (F : ∀ (w : World) (mg : Str → Option Value) (fa : Addr) (g : Heap), (K w.params).In g → g.Ns mainGlobals mg → mg d.name = some (.ref fa) →
      ∃ fd : FuncData, (∀ (s : Shared) (u : Value), BindsTo s fd ⟨[u], []⟩ [("script", u)]) ∧ ∀ base : Heap, (K w.params).In base → base.Ns mainGlobals mg → RunG l.prog w (K w.params) mg base 20 fa fd ["script"] (spLaw (K w.params))) :
    PySem.W.WalkO q loose XP YP l.row.toRowW d [] (fun f vs => PySem.call f vs) := by
  refine Att.attach_call most plain fun w zA zB mg mb fa o pm cd doc a vs ns G Y _ _ _ isfa isl nums short gens0 => ?_
  have part := inK w _ Y
  obtain ⟨fd, bi, run⟩ := F w mg fa _ part G.T.g isfa
  exact begin_law part G.T.g G.T.b G.T.builtins G.T.nolimit gens0 isl nums (Nat.le_trans short (by decide)) ⟨rfl, by decide, by decide⟩ run bi fun H sq => ⟨a, ns, rfl, sq, short, fun _ => rfl⟩
end S2
open PySem PySem.W PyProof.Rows
set_option maxRecDepth 100000 in
set_option maxHeartbeats 0 in
theorem PySem.Challenge.cw_salvor_k02_valid_stores_holds : PySem.Challenge.rw_salvor_k02_valid_stores.Holds := by
  w_on; o_law; k_head; (case hw => w_witness2)
  k_fill
  refine S2.walk (l := PySem.Challenge.rw_salvor_k02_valid_stores) rfl rfl (fun w h Y => PySem.W.kIn_of Y) ?F
  case F =>
    intro w mg fa h KX G hmg
    refine' S2.all_mk KX G hmg ?aSc ?a1 ?l1 ?c1 ?k1 ?a2 ?l2 ?c2 ?k2 ?a3 ?l3 ?c3 ?k3 ?a4 ?l4 ?c4 ?k4 ?a5 ?l5 ?c5 ?k5 ?a6 ?l6 ?c6 ?k6 ?a7 ?l7 ?c7 ?k7 ?a8 ?l8 ?c8 ?k8 ?a9 ?l9 ?c9 ?k9 ?a10 ?l10 ?c10 ?k10 ?a11 ?l11 ?c11 ?k11 ?a12 ?l12 ?c12 ?k12 ?a13 ?l13 ?c13 ?k13 ?a14 ?l14 ?c14 ?k14 ?a15 ?l15 ?c15 ?k15 ?a16 ?l16 ?c16 ?k16 ?a17 ?l17 ?c17 ?k17 ?a18 ?l18 ?c18 ?k18 ?a19 ?l19 ?c19 ?k19 ?a20 ?l20 ?c20 ?k20 ?a21 ?l21 ?c21 ?k21 ?a22 ?l22 ?c22 ?k22 ?a23 ?l23 ?c23 ?k23 ?a24 ?l24 ?c24 ?k24 ?a25 ?l25 ?c25 ?k25 ?a26 ?l26 ?c26 ?k26 ?a27 ?i27 ?l27 ?c27 ?k27 ?pgS ?hdS ?poS ?saS ?mkS ?kcS ?nwidth ?nvariables ?narguments ?nwrites ?zlen ?zint ?zabs ?zrange ?zisinstance ?zbool ?zsum ?zany ?zlist ?ztuple ?zmax ?zrepr ?zsuper ?wWORDS ?wMOST_SECTORS ?wMOST_WIDTH ?wMOST_KEYS ?wMOST_VARIABLES ?wMOST_STATEMENTS ?wMOST_ROUNDS ?wDEEPEST_BODY ?wDEEPEST_LOOP ?wDEEPEST_EXPRESSION ?aL ?lL ?aE ?xE ?hbE ?saE ?eE ?tE ?kE ?nE ?iE ?tfE ?suE ?inE ?mrE ?clE ?tpE ?toE ?lE ?cE ?lcE ?vE ?fiE ?ceE
    (case aSc => k_is)
    (case a1 => k_is)
    (case l1 => k_is)
    (case c1 => k_is)
    (case k1 => k_is)
    (case a2 => k_is)
    (case l2 => k_is)
    (case c2 => k_is)
    (case k2 => k_is)
    (case a3 => k_is)
    (case l3 => k_is)
    (case c3 => k_is)
    (case k3 => k_is)
    (case a4 => k_is)
    (case l4 => k_is)
    (case c4 => k_is)
    (case k4 => k_is)
    (case a5 => k_is)
    (case l5 => k_is)
    (case c5 => k_is)
    (case k5 => k_is)
    (case a6 => k_is)
    (case l6 => k_is)
    (case c6 => k_is)
    (case k6 => k_is)
    (case a7 => k_is)
    (case l7 => k_is)
    (case c7 => k_is)
    (case k7 => k_is)
    (case a8 => k_is)
    (case l8 => k_is)
    (case c8 => k_is)
    (case k8 => k_is)
    (case a9 => k_is)
    (case l9 => k_is)
    (case c9 => k_is)
    (case k9 => k_is)
    (case a10 => k_is)
    (case l10 => k_is)
    (case c10 => k_is)
    (case k10 => k_is)
    (case a11 => k_is)
    (case l11 => k_is)
    (case c11 => k_is)
    (case k11 => k_is)
    (case a12 => k_is)
    (case l12 => k_is)
    (case c12 => k_is)
    (case k12 => k_is)
    (case a13 => k_is)
    (case l13 => k_is)
    (case c13 => k_is)
    (case k13 => k_is)
    (case a14 => k_is)
    (case l14 => k_is)
    (case c14 => k_is)
    (case k14 => k_is)
    (case a15 => k_is)
    (case l15 => k_is)
    (case c15 => k_is)
    (case k15 => k_is)
    (case a16 => k_is)
    (case l16 => k_is)
    (case c16 => k_is)
    (case k16 => k_is)
    (case a17 => k_is)
    (case l17 => k_is)
    (case c17 => k_is)
    (case k17 => k_is)
    (case a18 => k_is)
    (case l18 => k_is)
    (case c18 => k_is)
    (case k18 => k_is)
    (case a19 => k_is)
    (case l19 => k_is)
    (case c19 => k_is)
    (case k19 => k_is)
    (case a20 => k_is)
    (case l20 => k_is)
    (case c20 => k_is)
    (case k20 => k_is)
    (case a21 => k_is)
    (case l21 => k_is)
    (case c21 => k_is)
    (case k21 => k_is)
    (case a22 => k_is)
    (case l22 => k_is)
    (case c22 => k_is)
    (case k22 => k_is)
    (case a23 => k_is)
    (case l23 => k_is)
    (case c23 => k_is)
    (case k23 => k_is)
    (case a24 => k_is)
    (case l24 => k_is)
    (case c24 => k_is)
    (case k24 => k_is)
    (case a25 => k_is)
    (case l25 => k_is)
    (case c25 => k_is)
    (case k25 => k_is)
    (case a26 => k_is)
    (case l26 => k_is)
    (case c26 => k_is)
    (case k26 => k_is)
    (case a27 => k_is)
    (case i27 => k_is)
    (case l27 => k_is)
    (case c27 => k_is)
    (case k27 => k_is)
    (case pgS => k_is)
    (case hdS => k_is)
    (case poS => k_is)
    (case saS => k_is)
    (case mkS => k_is)
    (case kcS => k_is)
    (case nwidth => k_is)
    (case nvariables => k_is)
    (case narguments => k_is)
    (case nwrites => k_is)
    (case zlen => k_is)
    (case zint => k_is)
    (case zabs => k_is)
    (case zrange => k_is)
    (case zisinstance => k_is)
    (case zbool => k_is)
    (case zsum => k_is)
    (case zany => k_is)
    (case zlist => k_is)
    (case ztuple => k_is)
    (case zmax => k_is)
    (case zrepr => k_is)
    (case zsuper => k_is)
    (case wWORDS => k_is)
    (case wMOST_SECTORS => k_is)
    (case wMOST_WIDTH => k_is)
    (case wMOST_KEYS => k_is)
    (case wMOST_VARIABLES => k_is)
    (case wMOST_STATEMENTS => k_is)
    (case wMOST_ROUNDS => k_is)
    (case wDEEPEST_BODY => k_is)
    (case wDEEPEST_LOOP => k_is)
    (case wDEEPEST_EXPRESSION => k_is)
    (case aL => k_is)
    (case lL => k_is)
    (case aE => k_is)
    (case xE => k_is)
    (case hbE => decide +kernel)
    (case saE => k_is)
    (case eE => k_is)
    (case tE => k_is)
    (case kE => k_is)
    (case nE => k_is)
    (case iE => k_is)
    (case tfE => k_is)
    (case suE => ks_is)
    (case inE => k_is)
    (case mrE => k_is)
    (case clE => k_is)
    (case tpE => k_is)
    (case toE => decide +kernel)
    (case lE => k_is)
    (case cE => k_is)
    (case lcE => k_is)
    (case vE => rfl)
    (case fiE => decide +kernel)
    (case ceE => k_is)
