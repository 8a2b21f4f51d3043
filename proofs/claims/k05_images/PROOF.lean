import PyProof.Rows.All
import Wide.All
import OpenK.AllK
import Wide.FinOn
import HandS.ForMost
import HandS.IsInst
import HandS.Conv
import HandS.Codes
import HandS.Flow
import HandS.TupMul
import HandS.TupAny
import HandS.SetKeys
import HandS.Walk
import HandS.Zip
import HandS.Keys
import KE.KDictKeyed
import KE.GoesEnum
import KE.KeyNested
import PySem.Challenge.RW_salvor_k05_images
set_option Elab.async false
set_option maxRecDepth 100000
set_option maxHeartbeats 4000000
set_option linter.unusedVariables false
namespace S5
open PySem L2
def top (i : Nat) : Stmt := PySem.Challenge.pw_salvor_k05_images.main.body.getD i (.Pass ⟨0, 0, 0, 0⟩)
abbrev s_choices : Stmt := top 1
abbrev s_image : Stmt := top 2
abbrev s_rows : Stmt := top 3
abbrev s_distinct : Stmt := top 4
abbrev s_first_choices : Stmt := top 5
abbrev s_outcomes : Stmt := top 6
abbrev s__law_state : Stmt := top 8
abbrev s__law_draw : Stmt := top 9
abbrev s__law_left : Stmt := top 10
abbrev s__law_all : Stmt := top 11
abbrev s_law : Stmt := top 12
end S5
namespace S5
open PySem L2
/-- where each def stands -/
structure Defs where
  fchoices : Addr
  dchoices : FuncData
  fimage : Addr
  dimage : FuncData
  frows : Addr
  drows : FuncData
  fdistinct : Addr
  ddistinct : FuncData
  ffirst_choices : Addr
  dfirst_choices : FuncData
  foutcomes : Addr
  doutcomes : FuncData
  f_law_state : Addr
  d_law_state : FuncData
  f_law_draw : Addr
  d_law_draw : FuncData
  f_law_left : Addr
  d_law_left : FuncData
  f_law_all : Addr
  d_law_all : FuncData
  flaw : Addr
  dlaw : FuncData
/-- what the top has written -/
structure Ok (P : Program) (K : PySem.W.Frag) (mg : Str → Option Value) (D : Defs) : Prop where
  Fchoices : Fun K "choices" "choices" s_choices D.fchoices D.dchoices
  bchoices : Binds K D.dchoices ["snapshot", "sector", "tears"] []
  mchoices : mg "choices" = some (.ref D.fchoices)
  Fimage : Fun K "image" "image" s_image D.fimage D.dimage
  bimage : Binds K D.dimage ["snapshot", "tears", "row"] []
  mimage : mg "image" = some (.ref D.fimage)
  Frows : Fun K "rows" "rows" s_rows D.frows D.drows
  brows : Binds K D.drows ["snapshot", "tears"] []
  mrows : mg "rows" = some (.ref D.frows)
  Fdistinct : Fun K "distinct" "distinct" s_distinct D.fdistinct D.ddistinct
  bdistinct : Binds K D.ddistinct ["snapshot", "tears"] []
  mdistinct : mg "distinct" = some (.ref D.fdistinct)
  Ffirst_choices : Fun K "first_choices" "first_choices" s_first_choices D.ffirst_choices D.dfirst_choices
  bfirst_choices : Binds K D.dfirst_choices ["snapshot", "sector", "tears"] []
  mfirst_choices : mg "first_choices" = some (.ref D.ffirst_choices)
  Foutcomes : Fun K "outcomes" "outcomes" s_outcomes D.foutcomes D.doutcomes
  boutcomes : Binds K D.doutcomes ["snapshot", "sector", "tears"] []
  moutcomes : mg "outcomes" = some (.ref D.foutcomes)
  F_law_state : Fun K "_law_state" "_law_state" s__law_state D.f_law_state D.d_law_state
  b_law_state : Binds K D.d_law_state ["script"] []
  m_law_state : mg "_law_state" = some (.ref D.f_law_state)
  F_law_draw : Fun K "_law_draw" "_law_draw" s__law_draw D.f_law_draw D.d_law_draw
  b_law_draw : Binds K D.d_law_draw ["state", "many"] []
  m_law_draw : mg "_law_draw" = some (.ref D.f_law_draw)
  F_law_left : Fun K "_law_left" "_law_left" s__law_left D.f_law_left D.d_law_left
  b_law_left : Binds K D.d_law_left ["snapshot", "sector", "tears"] []
  m_law_left : mg "_law_left" = some (.ref D.f_law_left)
  F_law_all : Fun K "_law_all" "_law_all" s__law_all D.f_law_all D.d_law_all
  b_law_all : Binds K D.d_law_all ["snapshot", "tears"] []
  m_law_all : mg "_law_all" = some (.ref D.f_law_all)
  Flaw : Fun K "law" "law" s_law D.flaw D.dlaw
  blaw : Binds K D.dlaw ["script"] []
  mlaw : mg "law" = some (.ref D.flaw)
  zlen : mg "len" = none
  zint : mg "int" = none
  zabs : mg "abs" = none
  zrange : mg "range" = none
  ztuple : mg "tuple" = none
  zenumerate : mg "enumerate" = none
  zzip : mg "zip" = none
end S5
namespace S5
open PySem L2
theorem new_same {H : Hp} {p : Addr} (h : H p = none) (o : HO) : Same H (upd H p o) := fun b u q => by rw [upd_ne (ne_of_none q h)]; exact q
theorem yes {σ : L2.St} {H : Hp} {Q : Bool → Hp → Prop} (h : Q true H) : tYes σ H Q := h
theorem small5 {n : Nat} (h : n ≤ 100000) : n < sizeLine := by rw [sizeLine_eq]; omega
/-- a list of data, one by one -/
def Each {α : Type} (R : Hp → α → V → Prop) (H : Hp) : List α → List V → Prop
  | [], [] => True
  | a :: r, x :: xs => R H a x ∧ Each R H r xs
  | _, _ => False
section
variable {α : Type} {R : Hp → α → V → Prop} {H H' : Hp}
theorem Each.mono (m : ∀ a v, R H a v → R H' a v) : ∀ {es : List α} {xs : List V}, Each R H es xs → Each R H' es xs
  | [], [], _ => trivial
  | _ :: _, _ :: _, ⟨h1, h2⟩ => ⟨m _ _ h1, Each.mono m h2⟩
  | [], _ :: _, h => h.elim
  | _ :: _, [], h => h.elim
theorem Each.len : ∀ {es : List α} {xs : List V}, Each R H es xs → xs.length = es.length
  | [], [], _ => rfl
  | _ :: _, _ :: _, ⟨_, h2⟩ => congrArg (· + 1) (Each.len h2)
  | [], _ :: _, h => h.elim
  | _ :: _, [], h => h.elim
theorem Each.get : ∀ {es : List α} {xs : List V} {i : Nat} {x : V}, Each R H es xs → xs[i]? = some x → ∃ e, es[i]? = some e ∧ R H e x
  | [], [], i, x, _, e => by cases i <;> cases e
  | a :: _, y :: _, 0, x, ⟨h1, _⟩, e => ⟨a, rfl, by cases e; exact h1⟩
  | _ :: _, _ :: _, i + 1, x, ⟨_, h2⟩, e => Each.get (i := i) h2 e
  | [], _ :: _, _, _, h, _ => h.elim
  | _ :: _, [], _, _, h, _ => h.elim
theorem Each.app : ∀ {es fs : List α} {xs ys : List V}, Each R H es xs → Each R H fs ys → Each R H (es ++ fs) (xs ++ ys)
  | [], _, [], _, _, h => h
  | _ :: _, _, _ :: _, _, ⟨h1, h2⟩, h => ⟨h1, Each.app h2 h⟩
  | [], _, _ :: _, _, h, _ => h.elim
  | _ :: _, _, [], _, h, _ => h.elim
end
theorem Each.imp {α : Type} {R R' : Hp → α → V → Prop} {H H' : Hp} (m : ∀ a v, R H a v → R' H' a v) : ∀ {es : List α} {xs : List V}, Each R H es xs → Each R' H' es xs
  | [], [], _ => trivial
  | _ :: _, _ :: _, ⟨h1, h2⟩ => ⟨m _ _ h1, Each.imp m h2⟩
  | [], _ :: _, h => h.elim
  | _ :: _, [], h => h.elim
end S5
namespace S5
open PySem L2
/-! ### the same rules with the written part named -/
def rTupOf (K : PySem.W.Frag) : List V → Hp → VK → Prop := fun xs H Q => ∃ p ys, xs = [.ref p] ∧ ((SqL K H p ys ∧ ∀ l, H l = none → Q (.ref l) (upd H l (.tup ys))) ∨ (SqT K H p ys ∧ Q (.ref p) H))
def rLstOf (K : PySem.W.Frag) : List V → Hp → VK → Prop := fun xs H Q => ∃ p ys, xs = [.ref p] ∧ (SqL K H p ys ∨ SqT K H p ys) ∧ ∀ l, H l = none → Q (.ref l) (upd H l (.lst ys))
def rLenQ (K : PySem.W.Frag) : List V → Hp → VK → Prop := fun xs H Q => ∃ p ys, xs = [.ref p] ∧ (SqL K H p ys ∨ SqT K H p ys) ∧ Q (.int ys.length) H
section
variable {X : Cx}
theorem call_tupK : CallR X (.type "tuple") (rTupOf X.K) := call_tuple_of
theorem call_lstK : CallR X (.type "list") (rLstOf X.K) := call_list_of
theorem call_lenK : CallR X (.builtin "len") (rLenQ X.K) := call_len_seq
theorem pe_fldK {K : PySem.W.Frag} {e : Expr} {f : Str} {pos : Pos} {ta : TE} (ha : PE X e ta) (hb : attributeBase e f X.env (eval e X.env) = eval e X.env) (hk : X.K = K := by rfl) : PE X (.Attribute e f pos) (tFld K ta f) := hk ▸ pe_fld ha hb
theorem pi_listK {K : PySem.W.Frag} {tg l : Expr} {tl : TE} (h : PE X l tl) (hk : X.K = K := by rfl) : PI X tg l (iList K tl) := hk ▸ pi_list h
theorem pi_tupK {K : PySem.W.Frag} {tg l : Expr} {tl : TE} (h : PE X l tl) (hk : X.K = K := by rfl) : PI X tg l (iTup K tl) := hk ▸ pi_tup h
end
end S5
namespace S5
open PySem L2
/-! ### the draws -/
def But (H H' : Hp) (st c : Addr) : Prop := ∀ b o, H b = some o → b ≠ st → b ≠ c → H' b = some o
theorem But.refl (H : Hp) (st c : Addr) : But H H st c := fun _ _ e _ _ => e
structure StAt (H : Hp) (st c : Addr) : Prop where
  top : ∃ m : Int, H st = some (.lst [.ref c, .int m])
  cells : ∃ ns : List Int, ns.length ≤ 63 ∧ H c = some (.lst (ns.map V.int))
theorem StAt.ne {H : Hp} {st c : Addr} (S : StAt H st c) : st ≠ c := by
  obtain ⟨⟨m, h1⟩, ⟨ns, _, h2⟩⟩ := S
  refine ne_of h1 h2 fun e => ?_
  injection e with e
  cases ns with
  | nil => cases e
  | cons a r => cases e
/-- the heap without the state's two lists -/
def Off (H : Hp) (st c : Addr) : Hp := fun b => if b = st ∨ b = c then none else H b
theorem off_get {H : Hp} {st c b : Addr} {o : HO} (h : Off H st c b = some o) : H b = some o ∧ b ≠ st ∧ b ≠ c := by
  unfold Off at h
  split at h
  · cases h
  · rename_i z
    exact ⟨h, fun e => z (.inl e), fun e => z (.inr e)⟩
theorem off_of {H : Hp} {st c b : Addr} {o : HO} (h : H b = some o) (h1 : b ≠ st) (h2 : b ≠ c) : Off H st c b = some o := by
  unfold Off
  rw [if_neg (fun z => z.elim h1 h2)]
  exact h
theorem off_same (H : Hp) (st c : Addr) : Same (Off H st c) H := fun b o e => (off_get e).1
theorem off_none {H : Hp} {st c b : Addr} (h : H b = none) : Off H st c b = none := by
  unfold Off
  split
  · rfl
  · exact h
theorem off_upd {H : Hp} {st c d : Addr} {o : HO} (h1 : d ≠ st) (h2 : d ≠ c) : Off (upd H d o) st c = upd (Off H st c) d o := by
  funext b
  unfold Off
  by_cases z : b = st ∨ b = c
  · rw [if_pos z]
    have : b ≠ d := fun e => z.elim (fun y => h1 (e.symm.trans y)) (fun y => h2 (e.symm.trans y))
    rw [upd_ne this, if_pos z]
  · rw [if_neg z]
    by_cases y : b = d
    · rw [y, upd_same, upd_same]
    · rw [upd_ne y, upd_ne y, if_neg z]
theorem StAt.free {H : Hp} {st c p : Addr} (S : StAt H st c) (h : H p = none) : p ≠ st ∧ p ≠ c := by
  obtain ⟨⟨m, h1⟩, ⟨ns, _, h2⟩⟩ := S
  exact ⟨fun e => (by rw [e, h1] at h; cases h), fun e => (by rw [e, h2] at h; cases h)⟩
theorem stAt_upd {H : Hp} {st c d : Addr} {o : HO} (S : StAt H st c) (h1 : d ≠ st) (h2 : d ≠ c) : StAt (upd H d o) st c := by
  obtain ⟨⟨m, e1⟩, ⟨ns, l, e2⟩⟩ := S
  exact ⟨⟨m, by rw [upd_ne h1.symm]; exact e1⟩, ⟨ns, l, by rw [upd_ne h2.symm]; exact e2⟩⟩
/-- what was there beside the state stands; the state stands -/
structure Go (st c : Addr) (H H' : Hp) : Prop where
  same : Same (Off H st c) (Off H' st c)
  st : StAt H' st c
theorem Go.refl {st c : Addr} {H : Hp} (S : StAt H st c) : Go st c H H := ⟨Same.refl _, S⟩
theorem Go.trans {st c : Addr} {H H1 H2 : Hp} (a : Go st c H H1) (b : Go st c H1 H2) : Go st c H H2 := ⟨a.same.trans b.same, b.st⟩
theorem Go.new {st c p : Addr} {H : Hp} (S : StAt H st c) (np : H p = none) (o : HO) : Go st c H (upd H p o) ∧ Off (upd H p o) st c p = some o := by
  obtain ⟨h1, h2⟩ := S.free np
  have e := off_upd (H := H) (o := o) h1 h2
  refine ⟨⟨?_, stAt_upd S h1 h2⟩, by rw [e]; exact upd_same⟩
  rw [e]
  exact new_same (off_none np) o
theorem Go.of_same {st c : Addr} {H H' : Hp} (S : StAt H st c) (s : Same H H') : Go st c H H' := by
  refine ⟨fun b o e => ?_, ?_⟩
  · obtain ⟨e1, h1, h2⟩ := off_get e
    exact off_of (s _ _ e1) h1 h2
  · obtain ⟨⟨m, e1⟩, ⟨ns, l, e2⟩⟩ := S
    exact ⟨⟨m, s _ _ e1⟩, ⟨ns, l, s _ _ e2⟩⟩
def spState (K : PySem.W.Frag) : Sp := fun vs H Q _ => ∃ (a : Addr) (ns : List Int), vs = [.ref a] ∧ SqL K H a (ns.map V.int) ∧ ns.length ≤ 63 ∧ ∀ (st c : Addr) (H' : Hp), Same H H' → H st = none → H c = none → StAt H' st c → Q (.ref st) H'
def spDraw : Sp := fun vs H Q _ => ∃ (st c : Addr) (many : Int), vs = [.ref st, .int many] ∧ StAt H st c ∧ 0 < many ∧ many < 1000000 ∧
  ∀ (r : Int) (H' : Hp), 0 ≤ r → r < many → Go st c H H' → Q (.int r) H'
section
variable {P : Program} {w : World} {K : PySem.W.Frag} {mg : Str → Option Value} {base : Heap} {D : Defs}
theorem sc_state : FnScope ["script", "seed", "cell"] ["script"] (defScope s__law_state) := ⟨rfl, rfl, rfl, by decide +kernel, rfl, by decide +kernel, by decide +kernel⟩
theorem ok_state (O : Ok P K mg D) : FnOk P w K mg base CX0 1 D.f_law_state D.d_law_state ["script"] (spState K) := by
  refine O.F_law_state.ok sc_state (fun vs H Q E h => ?_) (fun cdv A outer s H vs Q E hr h => ?_)
  · obtain ⟨a, ns, rfl, _⟩ := h
    rfl
  obtain ⟨a, ns, rfl, hS, hlen, q⟩ := h
  refine ⟨_, pss_cons (ps_set (i := 1) sc_state.nd rfl (Or.inl rfl) pe_int)
    (pss_cons (ps_for PassesOwn.never rfl (pi_list (pv 0)) (pg_name (i := 2) sc_state.nd rfl (Or.inl rfl))
      (pss_one (ps_set (i := 1) sc_state.nd rfl (Or.inl rfl) (pe_op op_mod (pe_callTy call_int1 (by rfl) O.zint PyProof.Rows.boot_int (pa_cons (pe_op op_add (pe_op op_mul (pv 1) pe_int) (pv 2)) pa_nil)) pe_int))))
    (pss_one (ps_ret (pe_lst (pa_cons
      (pe_lc (own := [("cell", 2)]) (g := gName 2) (by rfl) sc_state.nd (pi_list (pv 0)) (blkOk_by (own := [("cell", 2)]) (N := ["script", "seed", "cell"]) (sc := defScope s__law_state) (by decide +kernel))
        (fun _ _ _ _ _ => pg_name (i := 2) sc_state.nd rfl (Or.inl rfl)) (fun _ _ _ _ _ => pts_nil) (fun _ _ _ _ _ => pe_callB call_abs (by rfl) O.zabs PyProof.Rows.boot_abs (pa_cons (pv 2) pa_nil)))
      (pa_cons (pe_op op_add (pv 1) pe_int) pa_nil)))))), ?_⟩
  refine ⟨_, rfl, a, rfl, ⟨_, hS⟩, for_list (K := K) (a := a) (xs := ns.map V.int) (fun i σ H2 => ∃ (z : Int) (v : Option V), σ = [some (.ref a), some (.int z), v] ∧ H2 = H ∧ 0 ≤ z ∧ z < 1000003)
      ⟨7, none, rfl, rfl, by decide, by decide⟩ (fun i σ H2 _ ⟨_, _, _, e, _⟩ => by rw [e]; exact hS) ?_ ?_⟩
  · rintro i y σ H2 hi ⟨z, v, rfl, rfl, hz, hz'⟩
    obtain ⟨n, rfl⟩ : ∃ n, y = V.int n := by
      obtain ⟨n, _, e⟩ := List.mem_map.mp (List.mem_of_getElem? hi)
      exact ⟨n, e.symm⟩
    refine ⟨_, rfl, _, _, rfl, rfl, .inl ⟨by omega, by omega⟩, _, rfl, _, _, rfl, rfl, .inl ⟨_, rfl, _, _, rfl, rfl, (by show (0 : Int) < 1000003; decide), ?_⟩⟩
    exact ⟨_, _, rfl, rfl, Int.emod_nonneg _ (by decide), Int.emod_lt_of_pos _ (by decide)⟩
  · rintro σ H2 ⟨z, v, rfl, rfl, hz, hz'⟩
    refine ⟨_, rfl, a, rfl, ⟨_, hS⟩, fun c nc => lc_list (K := K) (a := a) (xs := ns.map V.int) (fun i H3 => ∃ ms : List Int, ms.length = i ∧ H3 = upd H2 c (.lst (ms.map V.int)))
      ⟨[], rfl, rfl⟩ (fun i H3 _ ⟨ms, _, e⟩ => by rw [e]; exact (new_same nc _).seq hS) ?_ ?_⟩
    · rintro i y H3 hi ⟨ms, hm, rfl⟩
      obtain ⟨n, rfl⟩ : ∃ n, y = V.int n := by
        obtain ⟨n, _, e⟩ := List.mem_map.mp (List.mem_of_getElem? hi)
        exact ⟨n, e.symm⟩
      have hil : i < ns.length := by
        have := (List.getElem?_eq_some_iff.mp hi).1
        rwa [List.length_map] at this
      refine ⟨rfl, yes (iteT ?_)⟩
      refine ⟨_, rfl, _, rfl, ms.map V.int, upd_same, (by rw [List.length_map]; exact small1000 (by omega)), ms ++ [if n < 0 then -n else n], by rw [List.length_append, hm]; rfl, ?_⟩
      rw [upd_upd, List.map_append]
      rfl
    · rintro H3 ⟨ms, hm, rfl⟩
      refine ⟨_, rfl, _, _, rfl, rfl, (by show 2 ≤ sizeLine; decide), fun st nst => ?_⟩
      have hcs : st ≠ c := fun e => by rw [e, upd_same] at nst; cases nst
      refine q st c _ ((new_same nc _).trans (new_same nst _)) ((new_same nc _).free nst) nc ⟨⟨z + 1, upd_same⟩, ⟨ms, ?_, ?_⟩⟩
      · rw [hm, List.length_map]; exact hlen
      · rw [upd_ne hcs.symm]; exact upd_same
theorem But.go {st c : Addr} {H H' : Hp} (b : But H H' st c) (S : StAt H' st c) : Go st c H H' := ⟨fun x o e => by
  obtain ⟨e1, h1, h2⟩ := off_get e
  exact off_of (b _ _ e1 h1 h2) h1 h2, S⟩
theorem sc_draw : FnScope ["state", "many", "cells", "value", "mixed"] ["state", "many"] (defScope s__law_draw) := ⟨rfl, rfl, rfl, by decide +kernel, rfl, by decide +kernel, by decide +kernel⟩
theorem ok_draw (O : Ok P K mg D) : FnOk P w K mg base CX0 1 D.f_law_draw D.d_law_draw ["state", "many"] spDraw := by
  refine O.F_law_draw.ok sc_draw (fun vs H Q E h => ?_) (fun cdv A outer s H vs Q E hr h => ?_)
  · obtain ⟨st, c, many, rfl, _⟩ := h
    rfl
  obtain ⟨st, c, many, rfl, S, hm0, hm1, q⟩ := h
  have hne := S.ne
  refine ⟨_, pss_cons (ps_set (i := 2) sc_draw.nd rfl (Or.inl rfl) (pe_ix ix_list (pv 0) pe_int (fun _ _ => rfl)))
    (pss_cons (ps_while PassesOwn.never (PW.pt (pw_and (pt_cmpR op_gt (pe_callB call_len_seq (by rfl) O.zlen PySem.boot_len (pa_cons (pv 2) pa_nil)) pe_int (nomark _)) (pw_and1 (pt_cmpR op_eq (pe_ix ix_list (pv 2) pe_int (fun _ _ => rfl)) pe_int (nomark _)))))
      (pss_one (ps_expr (pe_bm PySem.F.plainAttrs_list PySem.F.slot_list_pop PySem.F.type_list_pop mt_popAt (pv 2) (pa_cons pe_int pa_nil)))))
    (pss_cons (ps_if (pt_cmpR op_gt (pe_callB call_len_seq (by rfl) O.zlen PySem.boot_len (pa_cons (pv 2) pa_nil)) pe_int (nomark _))
      (pss_cons (ps_set (i := 3) sc_draw.nd rfl (Or.inl rfl) (pe_ix ix_list (pv 2) pe_int (fun _ _ => rfl)))
      (pss_cons (ps_asg (pe_op op_fdiv (pv 3) (pv 1)) (pg_sub (pv 2) pe_int set_list))
      (pss_one (ps_ret (pe_op op_mod (pe_callTy call_int1 (by rfl) O.zint PyProof.Rows.boot_int (pa_cons (pv 3) pa_nil)) (pv 1)))))) pss_nil)
    (pss_cons (ps_set (i := 4) sc_draw.nd rfl (Or.inl rfl) (pe_op op_mod (pe_callTy call_int1 (by rfl) O.zint PyProof.Rows.boot_int (pa_cons (pe_op op_add (pe_op op_mul (pe_ix ix_list (pv 0) pe_int (fun _ _ => rfl)) pe_int) pe_int) pa_nil)) pe_int))
    (pss_cons (ps_asg (pv 4) (pg_sub (pv 0) pe_int set_list))
    (pss_one (ps_ret (pe_op op_mod (pe_callTy call_int1 (by rfl) O.zint PyProof.Rows.boot_int (pa_cons (pe_op op_fdiv (pv 4) pe_int) pa_nil)) (pv 1)))))))), ?_⟩
  obtain ⟨⟨m, hst⟩, ⟨ns0, hl0, hc0⟩⟩ := S
  refine ⟨_, rfl, st, _, _, _, rfl, rfl, SqL.of hst, at_of (j := 0) rfl rfl, ?_⟩
  refine ⟨fun n σ H2 => ∃ ns : List Int, n = ns.length ∧ ns.length ≤ 63 ∧ σ = [some (.ref st), some (.int many), some (.ref c), none, none] ∧ H2 st = some (.lst [.ref c, .int m]) ∧ H2 c = some (.lst (ns.map V.int)) ∧ But H H2 st c,
    ⟨_, ns0, rfl, hl0, rfl, hst, hc0, But.refl _ _ _⟩, ?_⟩
  rintro n σ H2 ⟨ns, rfl, hl, rfl, hst2, hc2, hb⟩
  refine ⟨_, rfl, c, _, rfl, .inl (SqL.of hc2), _, _, rfl, rfl, _, rfl, ?_⟩
  cases ns with
  | nil =>
    refine iteF (iteF ?_)
    refine ⟨_, rfl, c, _, rfl, .inl (SqL.of hc2), _, _, rfl, rfl, _, rfl, iteF ?_⟩
    refine ⟨_, rfl, st, _, _, _, rfl, rfl, SqL.of hst2, at_of (j := 1) rfl rfl, _, _, rfl, rfl, .inr ⟨by decide, by decide⟩, _, _, rfl, rfl, .inl ⟨_, rfl, _, _, rfl, rfl, (by show (0 : Int) < 2147483647; decide), ?_⟩⟩
    refine ⟨_, rfl, _, rfl, st, _, _, 1, rfl, rfl, hst2, rfl, ?_⟩
    refine ⟨_, rfl, _, _, rfl, rfl, ⟨by decide, by decide⟩, .inl ⟨_, rfl, _, rfl, _, _, rfl, rfl, hm0, ?_⟩⟩
    refine q _ _ (Int.emod_nonneg _ (by omega)) (Int.emod_lt_of_pos _ hm0) (But.go ?_ ⟨⟨_, upd_same⟩, ⟨[], by decide, ?_⟩⟩)
    · intro b o e h1 h2
      rw [upd_ne h1]
      exact hb b o e h1 h2
    · rw [upd_ne hne.symm]; exact hc2
  | cons n ns =>
    have hpos : decide ((0 : Int) < (((n :: ns).map V.int).length : Nat)) = true := decide_eq_true (by rw [List.length_map, List.length_cons]; omega)
    rw [hpos]
    refine iteT ⟨_, rfl, c, _, _, _, rfl, rfl, SqL.of hc2, at_of (j := 0) rfl rfl, rfl, _, rfl, ite2 (fun z => ?_) (fun z => ?_)⟩
    · refine ⟨fun σ' H' => ∃ m', m' < (n :: ns).length ∧ ∃ ns' : List Int, m' = ns'.length ∧ ns'.length ≤ 63 ∧ σ' = [some (.ref st), some (.int many), some (.ref c), none, none] ∧ H' st = some (.lst [.ref c, .int m]) ∧ H' c = some (.lst (ns'.map V.int)) ∧ But H H' st c,
        fun σ' H' h => h, ?_⟩
      refine ⟨_, rfl, .inl ⟨rfl, _, SqL.of hc2⟩, c, _, _, 0, _, rfl, rfl, hc2, by decide, by decide, by simp [seqIndex?], rfl, ?_⟩
      refine ⟨ns.length, by simp, ns, rfl, by simp at hl; omega, rfl, ?_, ?_, ?_⟩
      · rw [upd_ne hne]; exact hst2
      · exact upd_same
      · intro b o e h1 h2
        rw [upd_ne h2]
        exact hb b o e h1 h2
    · refine ⟨_, rfl, c, _, rfl, .inl (SqL.of hc2), _, _, rfl, rfl, _, rfl, ?_⟩
      rw [hpos]
      refine iteT ⟨_, rfl, c, _, _, _, rfl, rfl, SqL.of hc2, at_of (j := 0) rfl rfl, ?_⟩
      refine ⟨_, rfl, _, rfl, _, _, rfl, rfl, ⟨hm0, by omega⟩, _, rfl, c, _, _, 0, rfl, rfl, hc2, by simp [ixN], ?_⟩
      refine ⟨_, rfl, .inl ⟨_, rfl, _, rfl, _, _, rfl, rfl, hm0, ?_⟩⟩
      refine q _ _ (Int.emod_nonneg _ (by omega)) (Int.emod_lt_of_pos _ hm0) (But.go ?_ ⟨⟨m, ?_⟩, ⟨(n / many) :: ns, by simpa using hl, ?_⟩⟩)
      · intro b o e h1 h2
        rw [upd_ne h2]
        exact hb b o e h1 h2
      · rw [upd_ne hne]; exact hst2
      · exact upd_same
end
end S5
namespace S5
open PySem L2
/-! ### what a piece of the program may change -/
/-- only what stands at fp may have changed; what stands at fp' was there or is new; tuples stay -/
structure Chg (fp fp' : List Addr) (H H' : Hp) : Prop where
  keep : ∀ a o, H a = some o → a ∉ fp → H' a = some o
  tups : ∀ a xs, H a = some (.tup xs) → H' a = some (.tup xs)
  dom : ∀ a, H' a = none → H a = none
  new : ∀ a, a ∈ fp' → a ∈ fp ∨ H a = none
section
variable {fp fp' gp gp' r : List Addr} {H H1 H2 H' : Hp} {a p : Addr} {o : HO}
theorem Chg.refl (fp : List Addr) (H : Hp) : Chg fp fp H H := ⟨fun _ _ h _ => h, fun _ _ h => h, fun _ h => h, fun _ h => .inl h⟩
theorem Chg.trans (x : Chg fp gp H H1) (y : Chg gp fp' H1 H2) : Chg fp fp' H H2 where
  keep := fun a o e n => y.keep a o (x.keep a o e n) fun z => (x.new a z).elim n fun w => by rw [w] at e; cases e
  tups := fun a xs e => y.tups a xs (x.tups a xs e)
  dom := fun a e => x.dom a (y.dom a e)
  new := fun a z => (y.new a z).elim (x.new a) fun w => .inr (x.dom a w)
theorem Chg.mono (x : Chg fp fp' H H') (h1 : ∀ a, a ∈ fp → a ∈ gp) (h2 : ∀ a, a ∈ gp' → a ∈ fp' ∨ a ∈ gp) : Chg gp gp' H H' where
  keep := fun a o e n => x.keep a o e fun z => n (h1 a z)
  tups := x.tups
  dom := x.dom
  new := fun a z => (h2 a z).elim (fun w => (x.new a w).imp (h1 a) id) .inl
theorem Chg.same (s : Same H H') (d : ∀ a, H' a = none → H a = none) : Chg fp fp H H' := ⟨fun a o e _ => s a o e, fun a xs e => s _ _ e, d, fun _ h => .inl h⟩
theorem dom_same (s : Same H H') : ∀ a, H' a = none → H a = none := fun _ e => s.free e
/-- a new object that belongs to the piece -/
theorem Chg.mk1 (n : H p = none) (o : HO) : Chg fp (p :: fp) H (upd H p o) where
  keep := fun a u e _ => by rw [upd_ne (ne_of_none e n)]; exact e
  tups := fun a u e => by rw [upd_ne (ne_of_none e n)]; exact e
  dom := fun a e => by
    by_cases z : a = p
    · rw [z]; exact n
    · rw [upd_ne z] at e; exact e
  new := fun a z => (List.mem_cons.mp z).elim (fun w => .inr (by rw [w]; exact n)) .inl
/-- a new object that nobody changes -/
theorem Chg.mk0 (n : H p = none) (o : HO) : Chg fp fp H (upd H p o) := (Chg.mk1 n o).mono (fun _ h => h) fun _ h => .inr h
theorem Chg.set (e : H a = some o) (m : a ∈ fp) (t : ∀ xs, o ≠ .tup xs) (o' : HO) : Chg fp fp H (upd H a o') where
  keep := fun b u h n => by rw [upd_ne fun z => n (by rw [z]; exact m)]; exact h
  tups := fun b u h => by
    rw [upd_ne fun z => ?_]
    · exact h
    · rw [z, e] at h; exact t u (Option.some.inj h)
  dom := fun b h => by
    by_cases z : b = a
    · rw [z, upd_same] at h; cases h
    · rw [upd_ne z] at h; exact h
  new := fun _ h => .inl h
theorem Chg.get (x : Chg fp fp' H H') (e : H a = some o) (n : a ∉ fp) : H' a = some o := x.keep a o e n
end
theorem no1 {a x : Addr} (h : a ≠ x) : a ∉ [x] := fun z => h (List.mem_singleton.mp z)
theorem no2 {a x y : Addr} (h : a ≠ x) (h' : a ≠ y) : a ∉ [x, y] := fun z => (List.mem_cons.mp z).elim h (no1 h')
theorem no3 {a x y z : Addr} (h : a ≠ x) (h' : a ≠ y) (h'' : a ≠ z) : a ∉ [x, y, z] := fun w => (List.mem_cons.mp w).elim h (no2 h' h'')
/-! ### data made of tuples -/
mutual
/-- v is the datum: ints, texts, bools, None, tuples of such -/
def Ft (H : Hp) : PyData → V → Prop
  | .none, v => v = .non
  | .bool b, v => v = .bl b
  | .int i, v => v = .int i
  | .str x, v => v = .str x
  | .tuple ds, v => ∃ p xs, v = .ref p ∧ H p = some (.tup xs) ∧ FtAll H ds xs
  | .list _, _ => False
  | .dict _, _ => False
def FtAll (H : Hp) : List PyData → List V → Prop
  | [], [] => True
  | d :: ds, x :: xs => Ft H d x ∧ FtAll H ds xs
  | _, _ => False
end
abbrev Tups (H H' : Hp) : Prop := ∀ a xs, H a = some (.tup xs) → H' a = some (.tup xs)
section
variable {H H' : Hp}
theorem FtAll.nil : FtAll H [] [] := by unfold FtAll; trivial
theorem FtAll.cons {d : PyData} {ds : List PyData} {x : V} {xs : List V} (h : Ft H d x) (h' : FtAll H ds xs) : FtAll H (d :: ds) (x :: xs) := by unfold FtAll; exact ⟨h, h'⟩
theorem FtAll.un {d : PyData} {ds : List PyData} {x : V} {xs : List V} (h : FtAll H (d :: ds) (x :: xs)) : Ft H d x ∧ FtAll H ds xs := by unfold FtAll at h; exact h
theorem FtAll.no1 {x : V} {xs : List V} (h : FtAll H [] (x :: xs)) : False := by unfold FtAll at h; exact h
theorem FtAll.no2 {d : PyData} {ds : List PyData} (h : FtAll H (d :: ds) []) : False := by unfold FtAll at h; exact h
theorem Ft.tup {ds : List PyData} {v : V} (h : Ft H (.tuple ds) v) : ∃ p xs, v = .ref p ∧ H p = some (.tup xs) ∧ FtAll H ds xs := by unfold Ft at h; exact h
theorem Ft.mkTup {ds : List PyData} {p : Addr} {xs : List V} (h : H p = some (.tup xs)) (h' : FtAll H ds xs) : Ft H (.tuple ds) (.ref p) := by unfold Ft; exact ⟨p, xs, rfl, h, h'⟩
theorem Ft.mkInt (i : Int) : Ft H (.int i) (.int i) := by unfold Ft; rfl
theorem Ft.int {i : Int} {v : V} (h : Ft H (.int i) v) : v = .int i := by unfold Ft at h; exact h
theorem Ft.mkStr (i : Str) : Ft H (.str i) (.str i) := by unfold Ft; rfl
theorem Ft.str {i : Str} {v : V} (h : Ft H (.str i) v) : v = .str i := by unfold Ft at h; exact h
mutual
theorem Ft.mono (s : Tups H H') : ∀ {d : PyData} {v : V}, Ft H d v → Ft H' d v
  | .none, _, h => by unfold Ft at h ⊢; exact h
  | .bool _, _, h => by unfold Ft at h ⊢; exact h
  | .int _, _, h => by unfold Ft at h ⊢; exact h
  | .str _, _, h => by unfold Ft at h ⊢; exact h
  | .tuple _, _, h => by
    obtain ⟨p, xs, rfl, h1, h2⟩ := h.tup
    exact Ft.mkTup (s _ _ h1) (FtAll.mono s h2)
  | .list _, _, h => by unfold Ft at h; exact h.elim
  | .dict _, _, h => by unfold Ft at h; exact h.elim
theorem FtAll.mono (s : Tups H H') : ∀ {ds : List PyData} {vs : List V}, FtAll H ds vs → FtAll H' ds vs
  | [], [], _ => .nil
  | _ :: _, _ :: _, h => .cons (Ft.mono s h.un.1) (FtAll.mono s h.un.2)
  | [], _ :: _, h => h.no1.elim
  | _ :: _, [], h => h.no2.elim
end
theorem FtAll.len : ∀ {ds : List PyData} {vs : List V}, FtAll H ds vs → vs.length = ds.length
  | [], [], _ => rfl
  | _ :: _, _ :: _, h => congrArg (· + 1) h.un.2.len
  | [], _ :: _, h => h.no1.elim
  | _ :: _, [], h => h.no2.elim
theorem FtAll.get : ∀ {ds : List PyData} {vs : List V} {i : Nat} {d : PyData}, FtAll H ds vs → ds[i]? = some d → ∃ x, vs[i]? = some x ∧ Ft H d x
  | [], [], i, x, _, e => by cases i <;> cases e
  | _ :: _, y :: _, 0, x, h, e => ⟨y, rfl, by cases e; exact h.un.1⟩
  | _ :: _, _ :: _, i + 1, x, h, e => h.un.2.get (i := i) e
  | [], _ :: _, _, _, h, _ => h.no1.elim
  | _ :: _, [], _, _, h, _ => h.no2.elim
theorem FtAll.app : ∀ {ds es : List PyData} {xs ys : List V}, FtAll H ds xs → FtAll H es ys → FtAll H (ds ++ es) (xs ++ ys)
  | [], _, [], _, _, h => h
  | _ :: _, _, _ :: _, _, h', h => .cons h'.un.1 (h'.un.2.app h)
  | [], _, _ :: _, _, h, _ => h.no1.elim
  | _ :: _, _, [], _, h, _ => h.no2.elim
theorem FtAll.set : ∀ {ds : List PyData} {vs : List V} {d : PyData} {x : V} (i : Nat), FtAll H ds vs → Ft H d x → FtAll H (ds.set i d) (vs.set i x)
  | [], [], _, _, _, _, _ => .nil
  | _ :: _, _ :: _, _, _, 0, h, e => .cons e h.un.2
  | _ :: _, _ :: _, _, _, i + 1, h, e => .cons h.un.1 (h.un.2.set i e)
  | [], _ :: _, _, _, _, h, _ => h.no1.elim
  | _ :: _, [], _, _, _, h, _ => h.no2.elim
theorem FtAll.ints : ∀ {ns : List Int}, FtAll H (ns.map .int) (ns.map V.int)
  | [] => .nil
  | n :: _ => .cons (Ft.mkInt n) FtAll.ints
theorem FtAll.ints_eq : ∀ {ns : List Int} {vs : List V}, FtAll H (ns.map .int) vs → vs = ns.map V.int
  | [], [], _ => rfl
  | _ :: _, _ :: _, h => by rw [h.un.1.int, h.un.2.ints_eq]; rfl
  | [], _ :: _, h => h.no1.elim
  | _ :: _, [], h => h.no2.elim
mutual
theorem Ft.dp (K : PySem.W.Frag) : ∀ {d : PyData} {v : V}, Ft H d v → Dp K H v d
  | .none, _, h => by unfold Ft at h; subst h; exact .non
  | .bool _, _, h => by unfold Ft at h; subst h; exact .bl _
  | .int _, _, h => by unfold Ft at h; subst h; exact .int _
  | .str _, _, h => by unfold Ft at h; subst h; exact .str _
  | .tuple _, _, h => by
    obtain ⟨p, xs, rfl, h1, h2⟩ := h.tup
    exact .tup (SqT.of h1) (FtAll.dp K h2)
  | .list _, _, h => by unfold Ft at h; exact h.elim
  | .dict _, _, h => by unfold Ft at h; exact h.elim
theorem FtAll.dp (K : PySem.W.Frag) : ∀ {ds : List PyData} {vs : List V}, FtAll H ds vs → DpAll K H vs ds
  | [], [], _ => .nil
  | _ :: _, _ :: _, h => .cons (Ft.dp K h.un.1) (FtAll.dp K h.un.2)
  | [], _ :: _, h => h.no1.elim
  | _ :: _, [], h => h.no2.elim
end
end
end S5
namespace S5
open PySem L2
theorem chg_go {st c : Addr} {H H' : Hp} (S : StAt H st c) (g : Same (Off H st c) (Off H' st c)) (S' : StAt H' st c) : Chg [st, c] [st, c] H H' where
  keep := fun a o e n => (off_get (g a o (off_of e (fun z => n (by rw [z]; exact .head _)) fun z => n (by rw [z]; exact .tail _ (.head _))))).1
  tups := fun a xs e => by
    obtain ⟨⟨m, h1⟩, ⟨ns, _, h2⟩⟩ := S
    exact (off_get (g a _ (off_of e (ne_of e h1 (by intro z; cases z)) (ne_of e h2 (by intro z; cases z))))).1
  dom := fun a e => by
    cases z : H a with
    | none => rfl
    | some o =>
      obtain ⟨h1, h2⟩ := S'.free e
      have := (off_get (g a o (off_of z h1 h2))).1
      rw [e] at this
      cases this
  new := fun a h => .inl h
theorem Go.chg {st c : Addr} {H H' : Hp} (g : Go st c H H') (S : StAt H st c) : Chg [st, c] [st, c] H H' := chg_go S g.same g.st
theorem StAt.keep {st c : Addr} {H H' : Hp} {fp fp' : List Addr} (S : StAt H st c) (g : Chg fp fp' H H') (h1 : st ∉ fp) (h2 : c ∉ fp) : StAt H' st c := by
  obtain ⟨⟨m, e1⟩, ⟨ns, l, e2⟩⟩ := S
  exact ⟨⟨m, g.keep _ _ e1 h1⟩, ⟨ns, l, g.keep _ _ e2 h2⟩⟩
/-- a list made by a comprehension, its items data that stand -/
theorem lc_chg {α : Type} {fp : List Addr} {d : Addr} {H0 : Hp} {n : Nat} {J : It} {X : Nat → V → Prop} {Qd : Hp → Prop} {B : V → Hp → (Hp → Prop) → Prop} (R : Hp → α → V → Prop) (Iv : Nat → Hp → Prop) (Pz : Nat → α → Prop)
    (Rm : ∀ H H' x v, (∀ b o, H b = some o → b ∉ fp → b ≠ d → H' b = some o) → Tups H H' → R H x v → R H' x v)
    (nd : H0 d = none) (nf : d ∉ fp) (hn : n ≤ 100000) (hI : ∀ i H o, Iv i H → Chg fp fp H0 H → Iv i (upd H d o)) (h0 : Iv 0 H0)
    (hstop : ∀ H, Chg fp fp H0 H → Iv n H → J.stop n H) (hgo : ∀ i H, i < n → Chg fp fp H0 H → Iv i H → J.go i H) (hy : ∀ i H x H', i < n → Chg fp fp H0 H → Iv i H → J.yld i H x H' → H' = H ∧ X i x)
    (hs : ∀ i x H acc, i < n → X i x → Chg fp fp H0 H → Iv i H → H d = some (.lst acc) → ∀ Nx : Hp → Prop, (∀ y H4 (z : α), Chg fp fp H H4 → Iv (i + 1) H4 → R H4 z y → Pz i z → ∃ acc, H4 d = some (.lst acc) ∧ acc.length < sizeLine ∧ Nx (upd H4 d (.lst (acc ++ [y])))) → B x H Nx)
    (hd : ∀ H zs acc, Chg fp fp H0 H → Iv n H → H d = some (.lst acc) → Each R H zs acc → zs.length = n → (∀ i z, zs[i]? = some z → Pz i z) → Qd H) :
    ∃ W : Nat → Nat → Hp → Prop, (∃ m, W 0 m (upd H0 d (.lst []))) ∧ ∀ i m H, W i m H →
      (J.stop i H ∧ Qd H) ∨ (J.go i H ∧ ∃ Nx : Hp → Prop, (∀ H', Nx H' → ∃ m', m' < m ∧ W (i + 1) m' H') ∧ ∀ x H', J.yld i H x H' → B x H' Nx) := by
  let Pv : Nat → Hp → Prop := fun i H => ∃ acc zs, H d = some (.lst acc) ∧ Chg fp fp H0 H ∧ Iv i H ∧ Each R H zs acc ∧ zs.length = i ∧ ∀ j z, zs[j]? = some z → Pz j z
  refine ⟨fun i m H => m + i = n ∧ Pv i H, ⟨n, rfl, [], [], upd_same, Chg.mk0 nd _, hI 0 H0 _ h0 (Chg.refl _ _), trivial, rfl, fun j z hz => by cases hz⟩, ?_⟩
  rintro i m H ⟨em, acc, zs, hacc, g, iv, he, hl, hz⟩
  cases m with
  | zero =>
    have ei : i = n := by omega
    subst ei
    exact .inl ⟨hstop H g iv, hd H zs acc g iv hacc he hl hz⟩
  | succ m =>
    have hi : i < n := by omega
    refine .inr ⟨hgo i H hi g iv, Pv (i + 1), fun H' p => ⟨m, Nat.lt_succ_self _, by omega, p⟩, fun x H' y => ?_⟩
    obtain ⟨rfl, hx⟩ := hy i H x H' hi g iv y
    refine hs i x H' acc hi hx g iv hacc (Pv (i + 1)) fun y H4 z g4 iv4 r zz => ?_
    have h4 := g4.keep d _ hacc nf
    have hal := Each.len he
    have g5 : Chg fp fp H0 (upd H4 d (.lst (acc ++ [y]))) := by
      have g04 := g.trans g4
      refine ⟨fun b o e nb => ?_, fun b xs e => ?_, fun b e => ?_, fun _ h => .inl h⟩
      · rw [upd_ne (ne_of_none e nd)]; exact g04.keep b o e nb
      · rw [upd_ne (ne_of_none e nd)]; exact g04.tups b xs e
      · by_cases zb : b = d
        · rw [zb]; exact nd
        · rw [upd_ne zb] at e; exact g04.dom b e
    have tu : Tups H4 (upd H4 d (.lst (acc ++ [y]))) := fun b xs e => by
      rw [upd_ne fun zb => ?_]
      · exact e
      · rw [zb, h4] at e; cases e
    refine ⟨acc, h4, small5' hn (by omega), acc ++ [y], zs ++ [z], upd_same, g5, hI _ _ _ iv4 (g.trans g4), ?_, by rw [List.length_append, hl]; rfl, ?_⟩
    · refine Each.app (Each.mono (fun a v h => Rm _ _ _ _ (fun b o e nb nbd => by rw [upd_ne nbd]; exact g4.keep b o e nb) (fun b xs e => tu b xs (g4.tups b xs e)) h) he) ⟨Rm _ _ _ _ (fun b o e nb nbd => by rw [upd_ne nbd]; exact e) tu r, trivial⟩
    · intro j a ha
      by_cases hj : j < zs.length
      · rw [List.getElem?_append_left hj] at ha
        exact hz j a ha
      · rw [List.getElem?_append_right (by omega)] at ha
        have : j - zs.length = 0 := by
          cases q : j - zs.length with
          | zero => rfl
          | succ k => rw [q] at ha; cases ha
        rw [this] at ha
        cases ha
        have ej : j = i := by omega
        rw [ej]; exact zz
where small5' {n k : Nat} (h : n ≤ 100000) (h' : k < n) : k < sizeLine := small5 (by omega)
theorem ft_rm {fp : List Addr} {d : Addr} : ∀ (H H' : Hp) (x : PyData) (v : V), (∀ b o, H b = some o → b ∉ fp → b ≠ d → H' b = some o) → Tups H H' → Ft H x v → Ft H' x v := fun _ _ _ _ _ t h => h.mono t
theorem each_ft {H : Hp} : ∀ {zs : List PyData} {acc : List V}, Each Ft H zs acc → FtAll H zs acc
  | [], [], _ => .nil
  | _ :: _, _ :: _, ⟨h1, h2⟩ => .cons h1 (each_ft h2)
  | [], _ :: _, h => h.elim
  | _ :: _, [], h => h.elim
theorem ft_each {H : Hp} : ∀ {zs : List PyData} {acc : List V}, FtAll H zs acc → Each Ft H zs acc
  | [], [], _ => trivial
  | _ :: _, _ :: _, h => ⟨h.un.1, ft_each h.un.2⟩
  | [], _ :: _, h => h.no1.elim
  | _ :: _, [], h => h.no2.elim
/-- walks that stand: a range, a list, a tuple -/
theorem wk_range {fp : List Addr} {H0 : Hp} {n : Nat} {Iv : Nat → Hp → Prop} : (∀ H, Chg fp fp H0 H → Iv n H → (Itr 0 n).stop n H) ∧ (∀ i H, i < n → Chg fp fp H0 H → Iv i H → (Itr 0 n).go i H) ∧ (∀ i H x H', i < n → Chg fp fp H0 H → Iv i H → (Itr 0 n).yld i H x H' → H' = H ∧ x = V.int (0 + (i : Int))) :=
  ⟨fun H g _ => Nat.le_refl n, fun i H hi g _ => hi, fun i H x H' _ g _ y => y⟩
theorem wk_list {K : PySem.W.Frag} {fp : List Addr} {H0 : Hp} {a : Addr} {xs : List V} {Iv : Nat → Hp → Prop} (ha : ∀ i H, Chg fp fp H0 H → Iv i H → SqL K H a xs) :
    (∀ H, Chg fp fp H0 H → Iv xs.length H → (Itl K a).stop xs.length H) ∧ (∀ i H, i < xs.length → Chg fp fp H0 H → Iv i H → (Itl K a).go i H) ∧ (∀ i H x H', i < xs.length → Chg fp fp H0 H → Iv i H → (Itl K a).yld i H x H' → H' = H ∧ xs[i]? = some x) :=
  ⟨fun H g v => ⟨xs, ha _ H g v, Nat.le_refl _⟩, fun i H hi g v => ⟨xs, xs[i], ha _ H g v, List.getElem?_eq_getElem hi⟩, fun i H x H' _ g v y => ⟨y.1, y.2 xs (ha _ H g v)⟩⟩
theorem wk_tup {K : PySem.W.Frag} {fp : List Addr} {H0 : Hp} {a : Addr} {xs : List V} {Iv : Nat → Hp → Prop} (ha : H0 a = some (.tup xs)) :
    (∀ H, Chg fp fp H0 H → Iv xs.length H → (Itt K a).stop xs.length H) ∧ (∀ i H, i < xs.length → Chg fp fp H0 H → Iv i H → (Itt K a).go i H) ∧ (∀ i H x H', i < xs.length → Chg fp fp H0 H → Iv i H → (Itt K a).yld i H x H' → H' = H ∧ xs[i]? = some x) :=
  ⟨fun H g v => ⟨xs, SqT.of (g.tups _ _ ha), Nat.le_refl _⟩, fun i H hi g v => ⟨xs, xs[i], SqT.of (g.tups _ _ ha), List.getElem?_eq_getElem hi⟩, fun i H x H' _ g v y => ⟨y.1, y.2 xs (SqT.of (g.tups _ _ ha))⟩⟩
end S5
namespace S5
open PySem PySem.Spec PyProof.Rows L2
/-! ### dicts whose keys are nested tuples: the object at d, its keys (their data, their tuples' addresses), its values -/
mutual
def nk : PyData → NestedKey
  | .none => .none
  | .bool b => .num (if b = true then 1 else 0)
  | .int i => .num i
  | .str x => .text x
  | .tuple ds => .tup (nks ds)
  | .list _ => .none
  | .dict _ => .none
def nks : List PyData → List NestedKey
  | [] => []
  | d :: ds => nk d :: nks ds
end
abbrev NRow := PyData × Addr × V
def RowOk (p : NRow) (q : NestedKey × Addr × Value) : Prop := nk p.1 = q.1 ∧ p.2.1 = q.2.1 ∧ RelV p.2.2 q.2.2
def DkP (P : Program) (w : World) (d : Addr) (kvs : List NRow) (h : Heap) : Prop := (d == sysModules) = false ∧ kvs.length ≤ sizeLine ∧ ∃ xs : List (NestedKey × Addr × Value), Paired RowOk kvs xs ∧
  ∃ (o : Obj) (es : Array DictEntry) (ep : Nat), h.get? d = some o ∧ o.ExactDict ∧ o.data = .dict es ep ∧ es.toList = xs.map (entryOfKey (nestedKind P w)) ∧ (xs.map (·.1)).Nodup
def DkN (P : Program) (w : World) (d : Addr) (kvs : List NRow) : HO := .ext (DkP P w d kvs)
def KeysAt (H : Hp) (kvs : List NRow) : Prop := ∀ p ∈ kvs, Ft H p.1 (.ref p.2.1) ∧ (nk p.1).depth ≤ 8
def lkN (kvs : List NRow) (k : NestedKey) : Option V := (kvs.find? fun p => decide (nk p.1 = k)).map (·.2.2)
theorem KeysAt.mono {H H' : Hp} (s : Tups H H') {kvs : List NRow} (h : KeysAt H kvs) : KeysAt H' kvs := fun p hp => ⟨(h p hp).1.mono s, (h p hp).2⟩
theorem KeysAt.add {H : Hp} {kvs : List NRow} {p : NRow} (h : KeysAt H kvs) (h1 : Ft H p.1 (.ref p.2.1)) (h2 : (nk p.1).depth ≤ 8) : KeysAt H (kvs ++ [p]) := fun q hq => by
  rcases List.mem_append.mp hq with z | z
  · exact h q z
  · rw [List.mem_singleton.mp z]; exact ⟨h1, h2⟩
theorem DkP.at' {P : Program} {w : World} {d : Addr} {kvs : List NRow} {h h' : Heap} (x : DkP P w d kvs h) (k : ∀ o, h.get? d = some o → h'.get? d = some o) : DkP P w d kvs h' := by
  obtain ⟨a, b, xs, r, o, es, ep, ho, rest⟩ := x
  exact ⟨a, b, xs, r, o, es, ep, k o ho, rest⟩
theorem dkN_ok {P : Program} {w : World} {H : Hp} {h : Heap} {d : Addr} {kvs : List NRow} (x : DkP P w d kvs h) : ObjOk P w H h d (DkN P w d kvs) := by
  have ⟨_, _, _, _, o, _, _, ho, _⟩ := x
  exact ⟨x, ⟨o, ho⟩, fun h1 h2 p k => p.at' k⟩
section
variable {X : Cx} {pins : List (Addr × Obj)} {σ : L2.St} {H : Hp} {s : Shared}
mutual
theorem ft_nested (I : Inv X pins σ H s) : ∀ (d : PyData) (v : V) (u : Value), Ft H d v → RelV v u → NestedIs s.heap (nk d) u
  | .none, v, u, h, r => by
    unfold Ft at h; subst h; cases r
    exact .none
  | .bool b, v, u, h, r => by
    unfold Ft at h; subst h; cases r
    exact .bool rfl
  | .int i, v, u, h, r => by
    rw [h.int] at r
    obtain ⟨t, rfl⟩ := r
    exact .int i t
  | .str x, v, u, h, r => by
    rw [h.str] at r
    obtain ⟨t, rfl⟩ := r
    exact .text x t
  | .tuple ds, v, u, h, r => by
    obtain ⟨p, xs, rfl, h1, h2⟩ := h.tup
    cases r
    obtain ⟨its, rv, ⟨o, ho, hc, n, hd⟩, _⟩ := I.tuple (SqT.of h1)
    refine .tup ho hc hd ?_
    rw [List.toList_toArray]
    exact ft_nestedAll I ds xs its h2 rv
  | .list _, v, u, h, r => by unfold Ft at h; exact h.elim
  | .dict _, v, u, h, r => by unfold Ft at h; exact h.elim
theorem ft_nestedAll (I : Inv X pins σ H s) : ∀ (ds : List PyData) (vs : List V) (us : List Value), FtAll H ds vs → Vals vs us → NestedAll s.heap (nks ds) us
  | [], [], us, _, r => by cases r; exact .nil
  | d :: ds, v :: vs, us, h, r => by
    cases r with
    | cons r1 r2 => exact .cons (ft_nested I d v _ h.un.1 r1) (ft_nestedAll I ds vs _ h.un.2 r2)
  | [], _ :: _, _, h, _ => h.no1.elim
  | _ :: _, [], _, h, _ => h.no2.elim
end
theorem rows_is (I : Inv X pins σ H s) {kvs : List NRow} {xs : List (NestedKey × Addr × Value)} (r : Paired RowOk kvs xs) : KeysAt H kvs → ∀ x ∈ xs, (nestedKind X.prog X.w).is s.heap x.1 x.2.1 := by
  induction r with
  | nil => intro _ x hx; exact nomatch hx
  | @cons p q ps qs h t ih =>
    intro k x hx
    rcases List.mem_cons.mp hx with e | hx
    · subst e
      obtain ⟨k1, k2⟩ := k p (List.mem_cons_self ..)
      rw [← h.1, ← h.2.1]
      exact ⟨ft_nested I _ _ _ k1 rfl, k2⟩
    · exact ih (fun y hy => k y (List.mem_cons_of_mem _ hy)) x hx
theorem rows_at {kvs : List NRow} {xs : List (NestedKey × Addr × Value)} (r : Paired RowOk kvs xs) (k : NestedKey) : RelO (lkN kvs k) ((atKey xs k).map (·.2)) := by
  induction r with
  | nil => trivial
  | @cons p q ps qs h t ih =>
    unfold lkN atKey at ih ⊢
    rw [List.find?_cons, List.find?_cons, h.1]
    by_cases e : q.1 = k
    · rw [decide_eq_true e]; exact h.2.2
    · rw [decide_eq_false e]; exact ih
theorem dkN_at (I : Inv X pins σ H s) {d : Addr} {kvs : List NRow} (e : Rd H d (DkN X.prog X.w d kvs)) (k : KeysAt H kvs) :
    (d == sysModules) = false ∧ kvs.length ≤ sizeLine ∧ ∃ xs, Paired RowOk kvs xs ∧ s.heap.DictOfH (nestedKind X.prog X.w) d xs := by
  obtain ⟨⟨a, b, xs, r, o, es, ep, h1, h2, h3, h4, h5⟩, _⟩ := (show ObjOk X.prog X.w H s.heap d (DkN X.prog X.w d kvs) from rd_of I.hok e)
  exact ⟨a, b, xs, r, o, es, ep, h1, h2, h3, h4, rows_is I r k, h5⟩
theorem key_at (I : Inv X pins σ H s) {k : PyData} {b : Addr} (h : Ft H k (.ref b)) (h2 : (nk k).depth ≤ 8) : (nestedKind X.prog X.w).is s.heap (nk k) b := ⟨ft_nested I _ _ _ h rfl, h2⟩
end
/-! rules -/
def tDNewN (P : Program) (w : World) : TE := fun _ H Q => ∀ p, H p = none → Q (.ref p) (upd H p (DkN P w p []))
def NIn (P : Program) (w : World) (x y : V) (H : Hp) (o : Option V) : Prop := ∃ a b k kvs, x = .ref a ∧ y = .ref b ∧ Ft H k (.ref b) ∧ (nk k).depth ≤ 8 ∧ H a = some (DkN P w a kvs) ∧ KeysAt H kvs ∧ o = lkN kvs (nk k)
def tNotInN (P : Program) (w : World) (ty td : TE) : TE := fun σ H Q => ty σ H fun y H1 => td σ H1 fun x H2 => ∃ o, NIn P w x y H2 o ∧ Q (.bl (!o.isSome)) H2
def tInN (P : Program) (w : World) (ty td : TE) : TE := fun σ H Q => ty σ H fun y H1 => td σ H1 fun x H2 => ∃ o, NIn P w x y H2 o ∧ Q (.bl o.isSome) H2
def tGetN (P : Program) (w : World) (td ty : TE) : TE := fun σ H Q => td σ H fun x H1 => ty σ H1 fun y H2 => ∃ v, NIn P w x y H2 (some v) ∧ Q v H2
/-- d[y] = v, a new key -/
def NPut (P : Program) (w : World) (x y v : V) (H : Hp) (Q : Hp → Prop) : Prop := ∃ a b k kvs, x = .ref a ∧ y = .ref b ∧ Ft H k (.ref b) ∧ (nk k).depth ≤ 8 ∧ H a = some (DkN P w a kvs) ∧ KeysAt H kvs ∧ kvs.length < sizeLine ∧ lkN kvs (nk k) = none ∧
  Q (upd H a (DkN P w a (kvs ++ [(k, b, v)])))
def sDPutN (P : Program) (w : World) (td ty tv : TE) : TS := fun D σ H => tv σ H fun v H1 => td σ H1 fun x H2 => ty σ H2 fun y H3 => NPut P w x y v H3 (D.nx σ)
def tSetdN (P : Program) (w : World) (td ty tx : TE) : TE := fun σ H Q => td σ H fun x H1 => (∃ a kvs, x = .ref a ∧ H1 a = some (DkN P w a kvs)) ∧ ty σ H1 fun y H2 => tx σ H2 fun v H3 =>
  ∃ a b k kvs, x = .ref a ∧ y = .ref b ∧ Ft H3 k (.ref b) ∧ (nk k).depth ≤ 8 ∧ H3 a = some (DkN P w a kvs) ∧ KeysAt H3 kvs ∧ kvs.length < sizeLine ∧
  (∀ z, lkN kvs (nk k) = some z → Q z H3) ∧ (lkN kvs (nk k) = none → Q v (upd H3 a (DkN P w a (kvs ++ [(k, b, v)]))))
section
variable {X : Cx} {o i e f value : Expr} {td ty tx tv : TE} {pos pos' apos cpos : Pos}
theorem room_in1 {A : Around} (hu : A.units + 64 < cLine) : (nestedKind X.prog X.w).room A.in1 := by
  show A.units + 1 + 8 < cLine
  omega
theorem pe_dnewN : PE X (.Dict [] [] pos) (tDNewN X.prog X.w) := ⟨fun pins s σ H Q I h =>
  wpAny_Dict_empty ⟨.ref s.heap.objs.size, _, I.laid (a := s.heap.objs.size) (o := DkN X.prog X.w s.heap.objs.size []) (t' := s.toks) (fun _ _ q => Heap.get?_push_of_some _ q) (Nat.le_refl _)
    (dkN_ok ⟨beq_eq_false_iff_ne.mpr (Ne.symm (Nat.ne_of_lt I.big)), Nat.zero_le _, [], .nil, _, #[], 0, Heap.get?_push_size _ rfl, ⟨rfl, rfl, rfl⟩, rfl, rfl, List.nodup_nil⟩), rfl, h _ (I.hok.fresh (Nat.le_refl _))⟩⟩
theorem pc_notinN (hu : X.A.units + 64 < cLine) (hi : PE X i ty) (ho : PE X o td) : PC X .NotIn i o (tNotInN X.prog X.w ty td) := by
  refine ⟨fun pins s σ H Q I h => ?_⟩
  refine thn (hi.run pins s σ H _ I h) fun iv s1 ⟨y, H1, I1, ry, q1⟩ => thn (ho.run pins s1 σ H1 _ I1 q1) fun u s2 ⟨x, H2, I2, rx, ov, ⟨a, b, k, kvs, ex, ey, hk, hd, ha, ks, el⟩, q2⟩ => ?_
  subst ex ey
  obtain rfl : u = Value.ref a := rx
  obtain rfl : iv = Value.ref b := ry
  obtain ⟨sm, z, xs, r, dd⟩ := dkN_at I2 (.inl ha) ks
  refine wpAny_notIn_heap (room_in1 hu) (key_at I2 hk hd) sm dd ?_
  have q := (rows_at r (nk k)).isSome_eq
  rw [Option.isSome_map] at q
  rw [← q, ← el]
  exact ⟨.bl (!ov.isSome), H2, I2.tok _, rfl, q2⟩
theorem pc_inN (hu : X.A.units + 64 < cLine) (hi : PE X i ty) (ho : PE X o td) : PC X .In i o (tInN X.prog X.w ty td) := by
  refine ⟨fun pins s σ H Q I h => ?_⟩
  refine thn (hi.run pins s σ H _ I h) fun iv s1 ⟨y, H1, I1, ry, q1⟩ => thn (ho.run pins s1 σ H1 _ I1 q1) fun u s2 ⟨x, H2, I2, rx, ov, ⟨a, b, k, kvs, ex, ey, hk, hd, ha, ks, el⟩, q2⟩ => ?_
  subst ex ey
  obtain rfl : u = Value.ref a := rx
  obtain rfl : iv = Value.ref b := ry
  obtain ⟨sm, z, xs, r, dd⟩ := dkN_at I2 (.inl ha) ks
  refine wpAny_in_heap (room_in1 hu) (key_at I2 hk hd) sm dd ?_
  have q := (rows_at r (nk k)).isSome_eq
  rw [Option.isSome_map] at q
  rw [← q, ← el]
  exact ⟨.bl ov.isSome, H2, I2.tok _, rfl, q2⟩
theorem put_ok {pins : List (Addr × Obj)} {σ : L2.St} {H : Hp} {s : Shared} {a b : Addr} {k : PyData} {kvs : List NRow} {v : V} {r : Value} {h' : Heap} {tk : Nat} {xs : List (NestedKey × Addr × Value)} (I : Inv X pins σ H s) (ha : H a = some (DkN X.prog X.w a kvs)) (sm : (a == sysModules) = false)
    (hl : kvs.length < sizeLine) (rr : Paired RowOk kvs xs) (rv : RelV v r) (hn : atKey xs (nk k) = none) (dd : h'.DictOfH (nestedKind X.prog X.w) a (storedH xs (nk k) b r)) (hs : Heap.SameBut a s.heap h') :
    Inv X pins σ (upd H a (DkN X.prog X.w a (kvs ++ [(k, b, v)]))) { s with heap := h', toks := tk } := by
  obtain ⟨ob, es, ep, h1, h2, h3, h4, _, h5⟩ := dd
  rw [storedH_new hn] at h4 h5
  refine d_write I (by rw [ha]; exact True.intro) hs ⟨ob, h1⟩ (dkN_ok ⟨sm, by rw [List.length_append]; exact hl, _, Paired.snoc rr ⟨rfl, rfl, rv⟩, ob, es, ep, h1, h2, h3, h4, h5⟩)
theorem ps_dputN (hu : X.A.units + 64 < cLine) (ho : PE X o td) (hi : PE X i ty) (hv : PE X value tv) (hs : swapsWith value (some (.Subscript o i pos')) pos.line X.env = pure false) :
    PS X (.Assign [.Subscript o i pos'] value pos) (sDPutN X.prog X.w td ty tv) := by
  refine ⟨fun pins s σ H D I h => ?_⟩
  refine wpAny_Assign_Subscript (thn (hv.run pins s σ H _ I h) fun r s1 ⟨v, H1, I1, rv, q1⟩ => thn (ho.run pins s1 σ H1 _ I1 q1) fun u s2 ⟨x, H2, I2, rx, q2⟩ => thn (hi.run pins s2 σ H2 _ I2 q2) fun iv s3 ⟨y, H3, I3, ry, a, b, k, kvs, ex, ey, hk, hd, ha, ks, hl, hn, q3⟩ => ?_) hs
  subst ex ey
  obtain rfl : u = Value.ref a := rx
  obtain rfl : iv = Value.ref b := ry
  obtain ⟨sm, z, xs, rr, dd⟩ := dkN_at I3 (.inl ha) ks
  have hl' : xs.length ≤ sizeLine := by rw [← Paired.length rr]; exact z
  have hx : atKey xs (nk k) = none := by
    have q := (rows_at rr (nk k)).isSome_eq
    rw [hn, Option.isSome_map] at q
    exact Option.not_isSome_iff_eq_none.mp (by rw [← q]; simp)
  refine wpAny_setItem_heap (hsz := hl') (room_in1 hu) (key_at I3 hk hd) dd fun h' dd' sb => ?_
  exact ⟨σ, _, put_ok I3 ha sm hl rr rv hx dd' sb, q3⟩
theorem pe_setdN (hu : X.A.units + 64 < cLine) (ho : PE X o td) (he : PE X e ty) (hf : PE X f tx) (m : M2 X o "setdefault" apos e f cpos) : PE X (.Call (.Attribute o "setdefault" apos) [e, f] [] cpos) (tSetdN X.prog X.w td ty tx) := by
  refine ⟨fun pins s σ H Q I h => ?_⟩
  refine wpAny_Call_method (T := "dict") (id := "dict.setdefault") m.base m.few m.line F.plainAttrs_dict F.slot_dict_setdefault F.type_dict_setdefault (thn (ho.run pins s σ H _ I h) fun u s1 ⟨x, H1, I1, rx, ⟨a0, kvs0, ex0, ha0⟩, q1⟩ => ?_)
  subst ex0
  obtain rfl : u = Value.ref a0 := rx
  obtain ⟨⟨_, _, xs0, r0, ob0, es0, ep0, g1, g2, g3, _⟩, _⟩ := (show ObjOk X.prog X.w H1 s1.heap a0 (DkN X.prog X.w a0 kvs0) from I1.hok _ _ ha0)
  refine ⟨⟨ob0, g1, g2.1⟩, fun b q => by cases q; exact ⟨ob0, g1, g2.2.1⟩, ?_⟩
  rw [m.trees]
  refine Calls.callWith_builtin rfl (Calls.evalArgs_plain (Calls.spliced_cons (thn (he.run pins s1 σ H1 _ I1 q1) fun iv s2 ⟨y, H2, I2, ry, q2⟩ =>
    Calls.spliced_cons (thn (hf.run pins s2 σ H2 _ I2 q2) fun fv s3 ⟨z, H3, I3, rz, a, b, k, kvs, ea, ey, hk, hd, ha, ks, hl, q3, q4⟩ => Calls.spliced_nil ?_))))
  cases ea
  subst ey
  obtain rfl : iv = Value.ref b := ry
  obtain ⟨sm, z', xs, rr, dd⟩ := dkN_at I3 (.inl ha) ks
  have hl' : xs.length ≤ sizeLine := by rw [← Paired.length rr]; exact z'
  refine call_setdefault_heap (hsz := hl') (room_in1 hu) (key_at I3 hk hd) sm dd (fun p hp => ?_) fun hn h' dd' sb => ?_
  · have q := rows_at rr (nk k)
    rw [hp] at q
    cases e : lkN kvs (nk k) with
    | none => rw [e] at q; exact q.elim
    | some v =>
      rw [e] at q
      exact ⟨v, H3, I3.tok _, q, q3 v e⟩
  · have q := (rows_at rr (nk k)).isSome_eq
    rw [hn] at q
    have e : lkN kvs (nk k) = none := Option.not_isSome_iff_eq_none.mp (by rw [q]; simp)
    exact ⟨z, _, put_ok I3 ha sm hl rr rz hn dd' sb, rz, q4 e⟩
end
end S5
namespace S5
open PySem PySem.Spec PyProof.Rows L2
/-! ### for k, v in d.items(), the dict locked -/
def Itn (P : Program) (w : World) (d : Addr) (o : Obj) (kvs : List NRow) : It :=
  ⟨fun i H => H d = some (.frz o (DkN P w d kvs)) ∧ KeysAt H kvs ∧ i < kvs.length, fun i H x H' => ∃ T p, kvs[i]? = some p ∧ x = .ref T ∧ H T = none ∧ H' = upd H T (.tup [.ref p.2.1, p.2.2]), fun i H => H d = some (.frz o (DkN P w d kvs)) ∧ KeysAt H kvs ∧ kvs.length ≤ i⟩
section
variable {X : Cx} {pins : List (Addr × Obj)} {σ : L2.St} {H : Hp} {s : Shared}
theorem paired_at {α β : Type} {R : α → β → Prop} : ∀ {xs : List α} {ys : List β} {i : Nat} {x : α}, Paired R xs ys → xs[i]? = some x → ∃ y, ys[i]? = some y ∧ R x y
  | _, _, i, x, .nil, e => by cases i <;> cases e
  | _, _, 0, x, .cons r _, e => by cases e; exact ⟨_, rfl, r⟩
  | _, _, i + 1, x, .cons _ t, e => paired_at (i := i) t e
theorem frzN (I : Inv X pins σ H s) {d : Addr} {o : Obj} {kvs : List NRow} (h : H d = some (.frz o (DkN X.prog X.w d kvs))) :
    (d == sysModules) = false ∧ s.heap.get? d = some o ∧ o.ExactDict ∧ ∃ (es : Array DictEntry) (ep : Nat), o.data = .dict es ep ∧ es.size = kvs.length ∧
      ∀ (i : Nat) (p : NRow), kvs[i]? = some p → ∃ (en : DictEntry), es[i]? = some en ∧ en.key = .ref p.2.1 ∧ RelV p.2.2 en.val := by
  obtain ⟨hd, ⟨sm, z, xs, pr, o', es, ep, ho, hx, hdt, he, _⟩, _⟩ := (show ObjOk X.prog X.w H s.heap d (.frz o (DkN X.prog X.w d kvs)) from I.hok d _ h)
  rw [hd] at ho
  cases ho
  refine ⟨sm, hd, hx, es, ep, hdt, ?_, fun i p e => ?_⟩
  · have l1 : es.toList.length = xs.length := by rw [he, List.length_map]
    rw [Array.length_toList] at l1
    have l2 := Paired.length pr
    omega
  · obtain ⟨q, hq, h1, h2, h3⟩ := paired_at pr e
    have k := entry_at he i
    rw [hq] at k
    exact ⟨_, k, by rw [h2]; rfl, h3⟩
end
theorem turn_itemsN {P : Program} {w : World} {K : PySem.W.Frag} {kvs : List NRow} {elts : List Expr} {kk : Nat} {tpos : Pos} {d : Addr} {o : Obj} {es : Array DictEntry} {ep : Nat} (it : Addr) (hod : o.data = .dict es ep) :
    Turn P w K (.Tuple elts kk tpos) (Itn P w d o kvs) [it] it (fun i h => ∃ ok ov, IsItemIter h it d i es.size ep ok ov) where
  mem := by simp
  obj := fun i h st b hb => by
    have e : b = it := by simpa using hb
    subst e
    obtain ⟨ok, ov, e⟩ := st
    exact ⟨_, e, fun v z => nomatch z⟩
  keep := fun i h h' st k => let ⟨ok, ov, e⟩ := st; ⟨ok, ov, k it (by simp) _ e⟩
  item := by
    intro X hP hw hK hc i pins s σ H E I hf st hg
    subst hP hw hK
    obtain ⟨hd, hk, hi⟩ := hg
    obtain ⟨hs, hgd, hx, es', ep', hdt, hsz, ent⟩ := frzN I hd
    obtain ⟨rfl, rfl⟩ := dict_ep hod hdt
    obtain ⟨p, hp⟩ : ∃ p, kvs[i]? = some p := ⟨kvs[i], List.getElem?_eq_getElem hi⟩
    obtain ⟨en, hen, hke, hve⟩ := ent i p hp
    have hie : i < es'.size := by rw [hsz]; exact hi
    have een : es'[i] = en := by
      rw [Array.getElem?_eq_getElem hie] at hen
      exact Option.some.inj hen
    obtain ⟨ok, ov, he⟩ := st
    have hlt : it < s.heap.objs.size := Heap.lt_size he
    refine wpAny_pyNext_items_item_raw he ⟨o, hgd, hx, hdt⟩ hie fun h' ho hT hz hk' => ?_
    rw [een] at hT ho
    refine ⟨_, rfl, wpAny_letOwnedTupleGo_items (s := { s with heap := h' }) ho fun h'' he' sb => ?_⟩
    have hT2 : h''.get? s.heap.objs.size = some { cls := .type "tuple", data := .seq #[en.key, en.val] } := (sb.2 _ (Nat.ne_of_gt hlt)).trans hT
    have new : ObjOk X.prog X.w (upd H s.heap.objs.size (.tup [.ref p.2.1, p.2.2])) h'' s.heap.objs.size (.tup [.ref p.2.1, p.2.2]) :=
      ⟨by show 2 ≤ sizeLine; decide, [en.key, en.val], .cons hke (.cons hve .nil), ⟨_, hT2, rfl, _, rfl⟩⟩
    have I1 : Inv X pins σ (upd H s.heap.objs.size (.tup [.ref p.2.1, p.2.2])) { s with heap := h'' } :=
      I.turnedNew (t' := s.toks) (ch := [it]) (fun b ob hb e => (sb.2 b (by simpa using hb)).trans (hk' b ob (by simpa using hb) e)) hf (Nat.le_refl _) new
    refine ⟨.ref s.heap.objs.size, _, I1, rfl, ⟨_, p, hp, rfl, I.hok.fresh (Nat.le_refl _), rfl⟩, ⟨en.key, en.val, ?_⟩, fun b hb => ?_⟩
    · exact he'
    · have e : b = it := by simpa using hb
      rw [e, upd_ne (Nat.ne_of_lt hlt)]
      exact (hf it (by simp)).1
  done := by
    intro X hP hw hK hc i pins s σ H E I hf st hg
    subst hP hw hK
    obtain ⟨hd, _, hi⟩ := hg
    obtain ⟨f0, f1, f2, f3, f4, f5⟩ := hf it (by simp)
    obtain ⟨hs, hgd, hx, es', ep', hdt, hsz, _⟩ := frzN I hd
    obtain ⟨rfl, rfl⟩ := dict_ep hod hdt
    obtain ⟨ok, ov, he⟩ := st
    exact wpAny_pyNext_items_end_raw (I.ok.hd hc) he ⟨o, hgd, hx, hdt⟩ (by rw [hsz]; exact hi) fun h' eb => ⟨rfl, I.turned (t' := s.toks) (fun b ob hb e => eb b ob hb e) f0 f1 f3 f4 f5⟩
  self := fun A i s Q E st h => let ⟨_, _, e⟩ := st; PySem.W.kcp_self e h
def iItemsN (P : Program) (w : World) (td : TE) : TI := fun σ H R => td σ H fun x H1 => ∃ d o kvs, x = .ref d ∧ H1 d = some (.frz o (DkN P w d kvs)) ∧ R (Itn P w d o kvs) H1
section
variable {X : Cx} {tg e : Expr} {td : TE} {apos cpos : Pos}
theorem pi_itemsN {elts : List Expr} {kk : Nat} {tpos : Pos} (he : PE X e td) (hbase : attributeBase e "items" X.env (eval e X.env) = eval e X.env := by rfl) (hline : (apos.endLine == cpos.line) = true := by rfl) :
    PI X (.Tuple elts kk tpos) (.Call (.Attribute e "items" apos) [] [] cpos) (iItemsN X.prog X.w td) := by
  refine ⟨fun pins s σ H R I h => ?_⟩
  refine wpAny_Call_method (T := "dict") (id := "dict.items") hbase rfl hline F.plainAttrs_dict F.slot_dict_items F.type_dict_items (thn (he.run pins s σ H _ I h) fun u s1 ⟨x, H1, I1, rx, d, o, kvs, ex, hd, q⟩ => ?_)
  subst ex
  obtain rfl : u = Value.ref d := rx
  obtain ⟨hs, hgd, hx, es, ep, hdt, hsz, _⟩ := frzN I1 hd
  refine ⟨⟨o, hgd, hx.1⟩, fun b q => by cases q; exact ⟨o, hgd, hx.2.1⟩, ?_⟩
  have I2 : Inv X pins σ H1 { s1 with heap := s1.heap.push { cls := .type "dict_items", data := .fields #[.ref d] } } := I1.kept (t' := s1.toks) fun b ob q => Heap.get?_push_of_some _ q
  have fin : wpAny (model X.prog X.w) X.A (pyIter (.ref s1.heap.objs.size)) (PIE X pins σ (.Tuple elts kk tpos) R) X.xe { s1 with heap := s1.heap.push { cls := .type "dict_items", data := .fields #[.ref d] } } := by
    refine wpAny_pyIter_items_raw (d := d) (es := es) (ep := ep) ⟨_, Heap.get?_push_size _ rfl, rfl, rfl⟩ ⟨o, Heap.get?_push_of_some _ hgd, hx, hdt⟩ (pi_one (tk := s1.toks) I2 _ (turn_itemsN _ hdt) ⟨.none, .none, ?_⟩ q)
    exact Heap.get?_push_size _ rfl
  show wpAny _ _ (callWith cpos (.builtin "dict.items") [.ref d] [] []) _ X.xe s1
  exact method_meetsIn F.slot_dict_items F.entry_dict_items rfl (PySem.evalArgs_none ⟨rfl, ⟨o, hgd, hx.1⟩, F.args_dict_items_1 _, _, meets_dict_items_raw d hs, ⟨es, ep, o, hgd, hx, hdt⟩, fin⟩)
end
/-! ### enumerate(tuple) -/
def Itet (K : PySem.W.Frag) (a : Addr) : It :=
  ⟨fun i H => ∃ (xs : List V) (x : V), SqT K H a xs ∧ xs[i]? = some x, fun i H v H' => ∃ T x, v = .ref T ∧ H T = none ∧ H' = upd H T (.tup [.int (i : Nat), x]) ∧ ∀ xs, SqT K H a xs → xs[i]? = some x, fun i H => ∃ xs : List V, SqT K H a xs ∧ xs.length ≤ i⟩
theorem meets_enumerate_newT (l : Addr) (items : Array Value) (o : Obj) (hc : o.cls = .type "tuple") (n : Nat) (hd : o.data = .seq items n) :
    Meets (Builtin.«enumerate.__new__» ⟨[.type "enumerate", .ref l], []⟩) (fun _ R s => s.heap.get? l = some o ∧
      R (.ok (.ret (.ref (s.heap.push { cls := .type "tuple_iterator", data := .fields #[.ref l, .int 0 0] }).objs.size)))
        { s with heap := (s.heap.push { cls := .type "tuple_iterator", data := .fields #[.ref l, .int 0 0] }).push { cls := .type "enumerate", data := .fields #[.none, .bool false, .ref s.heap.objs.size, rawInt 0, .none, .none] } }) :=
  .of_wp fun prog w A R s h => by
    obtain ⟨hp, g, d, tk, os⟩ := s; obtain ⟨hl, h⟩ := h
    have hsub := sub_enumerate
    have q1 : ∀ {A' : Around} {E : Value → Shared → Prop} {Q : Value → Shared → Prop}, Q (.ref hp.objs.size) ⟨hp.push { cls := .type "tuple_iterator", data := .fields #[.ref l, .int 0 0] }, g, d, tk, os⟩ → wpAny (model prog w) A' (pyIter (.ref l)) Q E ⟨hp, g, d, tk, os⟩ :=
      fun q => wpAny_pyIter_tuple ⟨o, hl, hc, n, hd⟩ q
    wp_walk using q1
    refine wpAny_stack_any fun st => wpAny_pure ?_
    split
    · rename_i c _ _ _ _ _
      cases (c == Value.type "enumerate")
      · wp_walk using q1
        exact ⟨_, rfl, h⟩
      · wp_walk using q1
        exact ⟨_, rfl, h⟩
    · wp_walk using q1
      exact ⟨_, rfl, h⟩
theorem call_enumerate_tup {prog : Program} {w : World} {A : Around} {E : Value → Shared → Prop} {s : Shared} {l : Addr} {items : Array Value} {Q : Value → Shared → Prop} (hL : s.heap.IsTuple l items)
    (h : ∀ h', IsEnum h' (s.heap.objs.size + 1) s.heap.objs.size 0 .none → h'.IsTupleIter s.heap.objs.size l 0 → h'.objs.size = s.heap.objs.size + 2 →
      (∀ b o, s.heap.get? b = some o → h'.get? b = some o) → Q (.ref (s.heap.objs.size + 1)) { s with heap := h' }) :
    wpAny (model prog w) A (call (.type "enumerate") [.ref l]) Q E s := by
  obtain ⟨o, hl, hc, n, hd⟩ := hL
  refine callType_new F.called_enumerate (by decide) (F.typeCall_enumerate_1 _) (F.newCall_enumerate_1 _) (fun obj => F.args_object_init_2 obj _) F.entry_enumerate_new
    (meets_enumerate_newT l items o hc n hd) ⟨hl, ?_⟩
  have hz : (s.heap.push { cls := .type "tuple_iterator", data := .fields #[.ref l, .int 0 0] }).objs.size = s.heap.objs.size + 1 := Heap.size_push ..
  show _ ∧ _
  rw [hz]
  have he : IsEnum ((s.heap.push { cls := .type "tuple_iterator", data := .fields #[.ref l, .int 0 0] }).push
      { cls := .type "enumerate", data := .fields #[.none, .bool false, .ref s.heap.objs.size, rawInt 0, .none, .none] }) (s.heap.objs.size + 1) s.heap.objs.size 0 .none := by
    have := Heap.get?_push_size (s.heap.push { cls := .type "tuple_iterator", data := .fields #[.ref l, .int 0 0] })
      (o := { cls := .type "enumerate", data := .fields #[.none, .bool false, .ref s.heap.objs.size, rawInt 0, .none, .none] }) rfl
    rw [hz] at this; exact this
  refine ⟨⟨_, he, rfl⟩, h _ he ⟨_, Heap.get?_push_of_some _ (Heap.get?_push_size _ rfl), rfl, rfl⟩ (by rw [Heap.size_push, hz]) fun b o x => Heap.get?_push_of_some _ (Heap.get?_push_of_some _ x)⟩
theorem enumT_end {prog : Program} {w : World} {A : Around} {E : Value → Shared → Prop} {s : Shared} {e it l : Addr} {i : Nat} {c : Int} {items : Array Value} {old : Value} {Q : Option Value → Shared → Prop} (hh : A.handled = none)
    (he : IsEnum s.heap e it c old) (hit : s.heap.IsTupleIter it l i) (hl : s.heap.IsTuple l items) (hx : items[i]? = none)
    (hQ : ∀ h', Heap.ExtBut it s.heap h' → Q none { s with heap := h' }) : wpAny (model prog w) A (pyNext (.ref e)) Q E s := by
  have hT : s.TypeIs (.ref e) "enumerate" := ⟨_, he, rfl⟩
  unfold pyNext
  refine wpAny_bind (wpAny_attempt (wpAny_callSpecial?_slot (name := Str.ofString "__next__") hT F.slot_enumerate_next
    (wpAny_call_entry F.slot_enumerate_next hT F.entry_enumerate_next ?_ (F.args_enumerate_next_1 _))))
  show wpAny _ _ (field (.ref e) 2 >>= _) _ _ _
  refine wpAny_bind (wpAny_field he rfl (x := .ref it) rfl ?_)
  refine wpAny_bind (wpAny_nextOf_tuple_end hh hit hl hx fun h' x he' hx' => ?_)
  obtain ⟨o, ho, hc⟩ := hx'
  refine wpAny_bind (wpAny_isInstance (T := "StopIteration") (b := true) ⟨o, ho, hc⟩ isSubtype_stop ?_)
  exact wpAny_pure (hQ _ he')
theorem turn_enumT {P : Program} {w : World} {K : PySem.W.Frag} {elts : List Expr} {kk : Nat} {tpos : Pos} (a e it : Addr) :
    Turn P w K (.Tuple elts kk tpos) (Itet K a) [e, it] e (fun i h => (∃ old, IsEnum h e it ((i : Nat) : Int) old) ∧ h.IsTupleIter it a i ∧ e ≠ it) where
  mem := by simp
  obj := fun i h st b hb => by
    obtain ⟨⟨old, he⟩, ⟨o, ho, hc, hd⟩, _⟩ := st
    have e' : b = e ∨ b = it := by simpa using hb
    rcases e' with z | z
    · rw [z]; exact ⟨_, he, fun v q => nomatch q⟩
    · rw [z]; exact ⟨o, ho, fun v q => by rw [hd] at q; cases q⟩
  keep := fun i h h' st k => let ⟨⟨old, he⟩, hi, hne⟩ := st; ⟨⟨old, k e (by simp) _ he⟩, hi.at fun o q => k it (by simp) o q, hne⟩
  item := by
    intro X hP hw hK hc i pins s σ H E I hf st hg
    subst hP hw hK
    obtain ⟨⟨old, he⟩, hit, hne⟩ := st
    obtain ⟨xs, x, hq, hx⟩ := hg
    obtain ⟨its, rv, p, hz⟩ := I.tuple hq
    obtain ⟨u, hu, ru⟩ := rv.get hx
    have hel : e < s.heap.objs.size := Heap.lt_size he
    have hil : it < s.heap.objs.size := by obtain ⟨_, q, _⟩ := hit; exact Heap.lt_size q
    have hiz : i < its.toArray.size := by
      rw [List.size_toArray]
      exact (List.getElem?_eq_some_iff.mp hu).1
    have hae : a ≠ e := fun z => by
      obtain ⟨o, ho, hc', n, hd'⟩ := p
      rw [z, he] at ho
      cases ho
      cases hd'
    have hai : a ≠ it := fun z => by
      obtain ⟨o, ho, hc', n, hd'⟩ := p
      obtain ⟨o2, ho2, hc2, hd2⟩ := hit
      rw [z, ho2] at ho
      cases ho
      rw [hd'] at hd2
      cases hd2
    refine wpAny_pyNext_enum_itemD (Draws.tuple (A := X.A.in1) (I.ok.hd hc) it a hai its.toArray) he ⟨hit, p⟩ hiz hne (by simp [hne, hae.symm]) fun x1 h' tk hP ho hst' hT hsz hk => ?_
    obtain rfl : x1 = u := by
      have : its.toArray[i]? = some u := by simpa using hu
      rw [this] at hP
      exact (Option.some.inj hP).symm
    refine ⟨_, rfl, wpAny_letOwnedTupleGo_enum (s := { s with heap := h', toks := tk + 1 }) ho fun h'' he' sb => ?_⟩
    have hT2 : h''.get? s.heap.objs.size = some { cls := .type "tuple", data := .seq #[.int i tk, x1] } := (sb.2 _ (Nat.ne_of_gt hel)).trans hT
    have new : ObjOk X.prog X.w (upd H s.heap.objs.size (.tup [.int (i : Nat), x])) h'' s.heap.objs.size (.tup [.int (i : Nat), x]) :=
      ⟨by show 2 ≤ sizeLine; decide, [.int i tk, x1], .cons ⟨_, rfl⟩ (.cons ru .nil), ⟨_, hT2, rfl, _, rfl⟩⟩
    have I1 : Inv X pins σ (upd H s.heap.objs.size (.tup [.int (i : Nat), x])) { s with heap := h'', toks := tk + 1 } :=
      I.turnedNew (ch := [e, it]) (fun b ob hb q => (sb.2 b (fun z => hb (by simp [z]))).trans (hk b ob (fun z => hb (by simp [z])) (fun z => hb (by simp [z])) q)) hf (Nat.le_refl _) new
    refine ⟨.ref s.heap.objs.size, _, I1, rfl, ⟨_, x, rfl, I.hok.fresh (Nat.le_refl _), rfl, fun ys hy => by rw [I.tuple_inj hy hq]; exact hx⟩, ⟨⟨x1, ?_⟩, hst'.1.at fun o q => (sb.2 it (Ne.symm hne)).trans q, hne⟩, fun b hb => ?_⟩
    · have e1 : ((i + 1 : Nat) : Int) = (i : Int) + 1 := by omega
      rw [e1]; exact he'
    · have hb' : b < s.heap.objs.size := by
        have e' : b = e ∨ b = it := by simpa using hb
        rcases e' with z | z
        · rw [z]; exact hel
        · rw [z]; exact hil
      rw [upd_ne (Nat.ne_of_lt hb')]
      exact (hf b hb).1
  done := by
    intro X hP hw hK hc i pins s σ H E I hf st hg
    subst hP hw hK
    obtain ⟨⟨old, he⟩, hit, hne⟩ := st
    obtain ⟨xs, hq, hx⟩ := hg
    obtain ⟨its, rv, p, hz⟩ := I.tuple hq
    obtain ⟨f0, f1, f2, f3, f4, f5⟩ := hf it (by simp)
    have hl := rv.length
    exact enumT_end (I.ok.hd hc) he hit p (by simp; omega) fun h' eb => ⟨rfl, I.turned (t' := s.toks) (fun b o hb q => eb b o hb q) f0 f1 f3 f4 f5⟩
  self := fun A i s Q E st h => let ⟨⟨_, he⟩, _⟩ := st; wpAny_pyIter_enum he h
def iEnumT (K : PySem.W.Frag) (ta : TA) : TI := fun σ H R => ta σ H fun vs H1 => ∃ a xs, vs = [.ref a] ∧ SqT K H1 a xs ∧ R (Itet K a) H1
theorem pi_enumT {X : Cx} {e : Expr} {ta : TA} {p pos tpos : Pos} {elts : List Expr} {kk : Nat} (hg : Gl X "enumerate") (hm : X.mg "enumerate" = none) (ha : PA X [e] ta) (hs : starEach [e] X.env = [(false, eval e X.env)] := by rfl) :
    PI X (.Tuple elts kk tpos) (.Call (.Name "enumerate" p) [e] [] pos) (iEnumT X.K ta) := by
  refine ⟨fun pins s σ H R I h => ?_⟩
  refine Call_ (ld_blt I hg hm boot_enumerate (PyProof.Rows.callWith_type1 (thn (ha.run pos pins s σ H _ I h) fun us s1 ⟨vs, H1, I1, r1, q1⟩ => ?_) hs rfl))
  obtain ⟨a, xs, ex, hq, q⟩ := q1
  subst ex
  cases r1 with
  | cons r rr =>
    cases rr
    cases r
    obtain ⟨its, rv, p', hz⟩ := I1.tuple hq
    refine call_enumerate_tup p' fun h' he hit hsz hk => wpAny_pyIter_enum he ?_
    have I2 : Inv X pins σ H1 { s1 with heap := h' } := I1.kept (t' := s1.toks) hk
    refine ⟨s1.heap.objs.size + 1, [s1.heap.objs.size + 1, s1.heap.objs.size], _, _, H1, rfl, I2, turn_enumT a (s1.heap.objs.size + 1) s1.heap.objs.size, ⟨⟨.none, he⟩, hit, Nat.succ_ne_self _⟩, fun b hb => ?_, q⟩
    have e' : b = s1.heap.objs.size + 1 ∨ b = s1.heap.objs.size := by simpa using hb
    have hle : s1.heap.objs.size ≤ b := by
      rcases e' with z | z
      · rw [z]; exact Nat.le_add_right _ _
      · rw [z]; exact Nat.le_refl _
    exact I1.fpOk hle (I1.hok.fresh hle)
end S5
namespace S5
open PySem L2
/-! ### the mathematics of images -/
theorem snocRec {α : Type} {P : List α → Prop} (nil : P []) (snoc : ∀ xs x, P xs → P (xs ++ [x])) (xs : List α) : P xs := by
  have h : ∀ ys : List α, P ys.reverse := fun ys => by
    induction ys with
    | nil => exact nil
    | cons a r ih => rw [List.reverse_cons]; exact snoc _ _ ih
  have := h xs.reverse
  rwa [List.reverse_reverse] at this
abbrev Ws := List Int
/-- the words that pending writes bring to a sector -/
def sel (s : Int) (pend : List (Int × Ws)) : List Ws := (pend.filter fun p => decide (p.1 = s)).map (·.2)
def mixes (old new : Ws) : List Ws := (List.range (new.length - 1)).map fun k => new.take (k + 1) ++ old.drop (k + 1)
/-- what the choices of a sector leave -/
def lefts (t : Bool) : Ws → List Ws → List Ws
  | w0, [] => [w0]
  | w0, w :: ws => w0 :: ((if t = true then mixes w0 w else []) ++ lefts t w ws)
theorem lefts_false (w0 : Ws) (ws : List Ws) : lefts false w0 ws = w0 :: ws := by
  induction ws generalizing w0 with
  | nil => rfl
  | cons w ws ih => rw [lefts, ih]; rfl
theorem lefts_ne (t : Bool) (w0 : Ws) (ws : List Ws) : lefts t w0 ws ≠ [] := by
  cases ws <;> simp [lefts]
/-- one pair of the whole: what is torn between -/
def tornP (p : Ws × Ws) : List Ws := (List.range p.1.length).map fun k => p.2.take k ++ p.1.drop k
theorem tornP_eq {a b : Ws} (h : a.length = b.length) (h1 : 1 ≤ a.length) : tornP (a, b) = a :: mixes a b := by
  unfold tornP mixes
  rw [← h]
  obtain ⟨n, hn⟩ : ∃ n, a.length = n + 1 := ⟨a.length - 1, by omega⟩
  rw [hn, List.range_succ_eq_map, List.map_cons, List.map_map]
  simp
theorem torn_all {W : Nat} (h1 : 1 ≤ W) : ∀ (ws : List Ws) (w0 : Ws), w0.length = W → (∀ w ∈ ws, w.length = W) →
    (((w0 :: ws).zip ws).flatMap tornP) ++ (w0 :: ws).drop ws.length = lefts true w0 ws
  | [], w0, _, _ => by simp [lefts]
  | w :: ws, w0, h0, h => by
    have hw := h w (List.mem_cons_self ..)
    have ih := torn_all h1 ws w hw fun x hx => h x (List.mem_cons_of_mem _ hx)
    rw [List.zip_cons_cons, List.flatMap_cons, tornP_eq (h0.trans hw.symm) (by omega), lefts, if_pos rfl, ← ih]
    simp
theorem lefts_len {W : Nat} (t : Bool) : ∀ (ws : List Ws) (w0 : Ws), (∀ w ∈ ws, w.length = W) → (lefts t w0 ws).length ≤ 1 + ws.length * (W + 1)
  | [], w0, _ => by simp [lefts]
  | w :: ws, w0, h => by
    have ih := lefts_len t ws w fun x hx => h x (List.mem_cons_of_mem _ hx)
    have hw := h w (List.mem_cons_self ..)
    rw [lefts, List.length_cons, List.length_append, List.length_cons]
    have : (if t = true then mixes w0 w else []).length ≤ W := by
      split
      · unfold mixes; rw [List.length_map, List.length_range]; omega
      · exact Nat.zero_le _
    rw [Nat.add_mul, Nat.one_mul]
    omega
theorem mixes_mem {W : Nat} {a b : Ws} (ha : a.length = W) (hb : b.length = W) : ∀ w ∈ mixes a b, w.length = W := fun w hw => by
  obtain ⟨k, hk, rfl⟩ := List.mem_map.mp hw
  rw [List.mem_range] at hk
  rw [List.length_append, List.length_take, List.length_drop]
  omega
theorem lefts_mem {W : Nat} (t : Bool) : ∀ (ws : List Ws) (w0 : Ws), w0.length = W → (∀ w ∈ ws, w.length = W) → ∀ w ∈ lefts t w0 ws, w.length = W
  | [], w0, h0, _, w, hw => by
    simp only [lefts, List.mem_singleton] at hw
    rw [hw]; exact h0
  | v :: ws, w0, h0, h, w, hw => by
    have hv := h v (List.mem_cons_self ..)
    rw [lefts] at hw
    rcases List.mem_cons.mp hw with rfl | hw
    · exact h0
    · rcases List.mem_append.mp hw with hw | hw
      · split at hw
        · exact mixes_mem h0 hv w hw
        · cases hw
      · exact lefts_mem t ws v hv (fun x hx => h x (List.mem_cons_of_mem _ hx)) w hw
theorem sel_len (s : Int) (pend : List (Int × Ws)) : (sel s pend).length ≤ pend.length := by
  unfold sel; rw [List.length_map]; exact List.length_filter_le _ _
theorem sel_mem {W : Nat} {s : Int} {pend : List (Int × Ws)} (h : ∀ p ∈ pend, p.2.length = W) : ∀ w ∈ sel s pend, w.length = W := fun w hw => by
  obtain ⟨p, hp, rfl⟩ := List.mem_map.mp hw
  exact h p (List.mem_filter.mp hp).1
/-- the choices of all sectors -/
def outsOf (t : Bool) (dur : List Ws) (pend : List (Int × Ws)) (s : Nat) : List Ws := lefts t (dur.getD s []) (sel (s : Int) pend)
def outs (t : Bool) (dur : List Ws) (pend : List (Int × Ws)) (n : Nat) : List (List Ws) := (List.range n).map (outsOf t dur pend)
/-! rows and images -/
abbrev RC := List Int × List Ws
/-- the list with the numbers of its items ahead -/
def en (xs : List Ws) : List (Int × Ws) := xs.mapIdx fun i w => ((i : Int), w)
theorem en_len (xs : List Ws) : (en xs).length = xs.length := by unfold en; simp
theorem en_get (xs : List Ws) (i : Nat) (h : i < xs.length) : (en xs)[i]? = some ((i : Int), xs[i]) := by unfold en; simp [h]
theorem en_snoc (xs : List Ws) (w : Ws) : en (xs ++ [w]) = en xs ++ [((xs.length : Int), w)] := by unfold en; simp [List.mapIdx_append]
def ext (p : RC) (q : Int × Ws) : RC := (p.1 ++ [q.1], p.2 ++ [q.2])
def grow (found : List RC) (qs : List (Int × Ws)) : List RC := found.flatMap fun p => qs.map (ext p)
def allFrom : List RC → List (List Ws) → List RC
  | f, [] => f
  | f, l :: ls => allFrom (grow f (en l)) ls
def allL (ls : List (List Ws)) : List RC := allFrom [([], [])] ls
theorem allFrom_snoc : ∀ (ls : List (List Ws)) (f : List RC) (l : List Ws), allFrom f (ls ++ [l]) = grow (allFrom f ls) (en l)
  | [], _, _ => rfl
  | _ :: ls, _, l => allFrom_snoc ls _ l
theorem allL_snoc (ls : List (List Ws)) (l : List Ws) : allL (ls ++ [l]) = grow (allL ls) (en l) := allFrom_snoc ls _ l
theorem grow_len (found : List RC) (qs : List (Int × Ws)) : (grow found qs).length = found.length * qs.length := by
  unfold grow
  induction found with
  | nil => simp
  | cons p r ih => rw [List.flatMap_cons, List.length_append, List.length_map, ih, List.length_cons, Nat.add_mul, Nat.one_mul, Nat.add_comm]
theorem outs_snoc (t : Bool) (dur : List Ws) (pend : List (Int × Ws)) (n : Nat) : outs t dur pend (n + 1) = outs t dur pend n ++ [outsOf t dur pend n] := by
  unfold outs
  rw [List.range_succ, List.map_append]; rfl
theorem allL_len_mono (ls : List (List Ws)) (l : List Ws) (h : l ≠ []) : (allL ls).length ≤ (allL (ls ++ [l])).length := by
  rw [allL_snoc, grow_len, en_len]
  have : 1 ≤ l.length := List.length_pos_iff.mpr h
  exact Nat.le_mul_of_pos_right _ this
theorem outs_len_mono (t : Bool) (dur : List Ws) (pend : List (Int × Ws)) : ∀ (m n : Nat), m ≤ n → (allL (outs t dur pend m)).length ≤ (allL (outs t dur pend n)).length := fun m n h => by
  induction n with
  | zero => obtain rfl : m = 0 := by omega
            exact Nat.le_refl _
  | succ n ih =>
    by_cases e : m = n + 1
    · rw [e]; exact Nat.le_refl _
    · refine Nat.le_trans (ih (by omega)) ?_
      rw [outs_snoc]
      exact allL_len_mono _ _ (lefts_ne _ _ _)
/-- the image of a row -/
def imgOf (ls : List (List Ws)) (row : List Int) : List Ws := List.zipWith (fun l (c : Int) => l.getD c.toNat []) ls row
theorem imgOf_snoc {ls : List (List Ws)} {row : List Int} (h : ls.length = row.length) (l : List Ws) (c : Int) : imgOf (ls ++ [l]) (row ++ [c]) = imgOf ls row ++ [l.getD c.toNat []] := by
  unfold imgOf
  rw [List.zipWith_append h]; rfl
/-- what holds of each row and its contents -/
def RowOf (ls : List (List Ws)) (p : RC) : Prop := p.1.length = ls.length ∧ p.2 = imgOf ls p.1 ∧ ∀ (i : Nat) (c : Int) (l : List Ws), p.1[i]? = some c → ls[i]? = some l → 0 ≤ c ∧ c.toNat < l.length
theorem grow_mem {found : List RC} {qs : List (Int × Ws)} {p : RC} (h : p ∈ grow found qs) : ∃ a ∈ found, ∃ q ∈ qs, p = ext a q := by
  obtain ⟨a, ha, hp⟩ := List.mem_flatMap.mp h
  obtain ⟨q, hq, rfl⟩ := List.mem_map.mp hp
  exact ⟨a, ha, q, hq, rfl⟩
theorem en_mem {xs : List Ws} {q : Int × Ws} (h : q ∈ en xs) : ∃ i, i < xs.length ∧ q.1 = (i : Int) ∧ xs[i]? = some q.2 := by
  obtain ⟨i, hi⟩ := List.getElem?_of_mem h
  have hl : i < xs.length := by
    rw [← en_len]; exact (List.getElem?_eq_some_iff.mp hi).1
  rw [en_get xs i hl] at hi
  cases hi
  exact ⟨i, hl, rfl, List.getElem?_eq_getElem hl⟩
theorem RowOf.grow {ls : List (List Ws)} {found : List RC} {l : List Ws} (h : ∀ p ∈ found, RowOf ls p) : ∀ p ∈ grow found (en l), RowOf (ls ++ [l]) p := fun p hp => by
  obtain ⟨a, ha, q, hq, rfl⟩ := grow_mem hp
  obtain ⟨h1, h2, h3⟩ := h a ha
  obtain ⟨j, hj, e1, e2⟩ := en_mem hq
  refine ⟨by simp [ext, h1], ?_, fun i c l' hi hl => ?_⟩
  · show a.2 ++ [q.2] = imgOf (ls ++ [l]) (a.1 ++ [q.1])
    rw [imgOf_snoc h1.symm, ← h2, e1]
    have : l.getD ((j : Int)).toNat [] = q.2 := by
      rw [Int.toNat_natCast, List.getD_eq_getElem?_getD, e2]; rfl
    rw [this]
  · have hi : (a.1 ++ [q.1])[i]? = some c := hi
    by_cases z : i < ls.length
    · rw [List.getElem?_append_left (by omega)] at hi
      rw [List.getElem?_append_left z] at hl
      exact h3 i c l' hi hl
    · rw [List.getElem?_append_right (by omega)] at hi hl
      have e : i - ls.length = 0 := by
        have := (List.getElem?_eq_some_iff.mp hl).1
        simp at this; omega
      rw [h1, e] at hi
      rw [e] at hl
      cases hi
      cases hl
      rw [e1]
      exact ⟨by omega, by simpa using hj⟩
theorem allL_row (t : Bool) (dur : List Ws) (pend : List (Int × Ws)) : ∀ n, ∀ p ∈ allL (outs t dur pend n), RowOf (outs t dur pend n) p
  | 0, p, hp => by
    have e : p = ([], []) := by simpa [outs, allL, allFrom] using hp
    rw [e]
    exact ⟨rfl, rfl, fun i c l h _ => by cases h⟩
  | n + 1, p, hp => by
    rw [outs_snoc] at hp ⊢
    rw [allL_snoc] at hp
    exact RowOf.grow (allL_row t dur pend n) p hp
/-! keep the first of each -/
section
variable {α κ : Type} [DecidableEq κ]
def ddS (key : α → κ) (acc : List α) (a : α) : List α := if key a ∈ acc.map key then acc else acc ++ [a]
def dd (key : α → κ) (xs : List α) : List α := xs.foldl (ddS key) []
theorem dd_snoc (key : α → κ) (xs : List α) (a : α) : dd key (xs ++ [a]) = ddS key (dd key xs) a := by
  unfold dd; rw [List.foldl_append]; rfl
theorem ddS_keys (key : α → κ) (acc : List α) (a : α) (k : κ) : k ∈ (ddS key acc a).map key ↔ k ∈ acc.map key ∨ k = key a := by
  unfold ddS
  split
  · rename_i h
    exact ⟨.inl, fun z => z.elim id fun e => by rw [e]; exact h⟩
  · rw [List.map_append, List.mem_append]
    simp
theorem ddS_len (key : α → κ) (acc : List α) (a : α) : (ddS key acc a).length ≤ acc.length + 1 := by
  unfold ddS
  split
  · omega
  · simp
end
theorem dd_len {α κ : Type} [DecidableEq κ] (key : α → κ) (xs : List α) : (dd key xs).length ≤ xs.length := by
  have g : ∀ (ys : List α) (acc : List α), (ys.foldl (ddS key) acc).length ≤ acc.length + ys.length := by
    intro ys
    induction ys with
    | nil => intro acc; simp
    | cons a r ih =>
      intro acc
      have h1 := ih (ddS key acc a)
      have h2 := ddS_len key acc a
      rw [List.foldl_cons, List.length_cons]
      omega
  have := g xs []
  simpa [dd] using this
/-- the firsts of a sector -/
def firsts (l : List Ws) : List (Int × Ws) := dd (·.2) (en l)
def firstsL (ls : List (List Ws)) : List RC := ls.foldl (fun f l => grow f (firsts l)) [([], [])]
theorem firstsL_snoc (ls : List (List Ws)) (l : List Ws) : firstsL (ls ++ [l]) = grow (firstsL ls) (firsts l) := by
  unfold firstsL; rw [List.foldl_append]; rfl
theorem fold_in (acc : List RC) (a : RC) : ∀ (qs : List (Int × Ws)), (∀ q ∈ qs, (ext a q).2 ∈ acc.map (·.2)) → (qs.map (ext a)).foldl (ddS (·.2)) acc = acc
  | [], _ => rfl
  | q :: qs, h => by
    rw [List.map_cons, List.foldl_cons]
    have : ddS (·.2) acc (ext a q) = acc := by
      unfold ddS; rw [if_pos (h q (List.mem_cons_self ..))]
    rw [this]
    exact fold_in acc a qs fun x hx => h x (List.mem_cons_of_mem _ hx)
theorem fold_new (acc : List RC) (a : RC) (n : Nat) (hn : ∀ p ∈ acc, p.2.length = n + 1) (ha : a.2.length = n) (hno : ∀ p ∈ acc, p.2.take n ≠ a.2) (qs : List (Int × Ws)) :
    (qs.map (ext a)).foldl (ddS (·.2)) acc = acc ++ (dd (·.2) qs).map (ext a) := by
  induction qs using snocRec with
  | nil => simp [dd]
  | snoc qs q ih =>
    rw [List.map_append, List.foldl_append, ih, dd_snoc]
    show ddS (·.2) (acc ++ (dd (·.2) qs).map (ext a)) (ext a q) = _
    unfold ddS
    have key : ((ext a q).2 ∈ (acc ++ (dd (·.2) qs).map (ext a)).map (·.2)) ↔ q.2 ∈ (dd (·.2) qs).map (·.2) := by
      rw [List.map_append, List.mem_append]
      constructor
      · rintro (h | h)
        · obtain ⟨p, hp, e⟩ := List.mem_map.mp h
          exfalso
          refine hno p hp ?_
          have e : p.2 = a.2 ++ [q.2] := e
          rw [e, ← ha, List.take_left]
        · rw [List.map_map] at h
          obtain ⟨r, hr, e⟩ := List.mem_map.mp h
          have e : a.2 ++ [r.2] = a.2 ++ [q.2] := e
          have e2 := List.append_cancel_left e
          have : r.2 = q.2 := by simpa using e2
          exact List.mem_map.mpr ⟨r, hr, this⟩
      · intro h
        right
        obtain ⟨r, hr, e⟩ := List.mem_map.mp h
        rw [List.map_map]
        refine List.mem_map.mpr ⟨r, hr, ?_⟩
        show a.2 ++ [r.2] = a.2 ++ [q.2]
        rw [show r.2 = q.2 from e]
    by_cases z : q.2 ∈ (dd (·.2) qs).map (·.2)
    · rw [if_pos (key.mpr z), if_pos z]
    · rw [if_neg fun y => z (key.mp y), if_neg z, List.map_append, List.append_assoc]; rfl
theorem dd_mem {α κ : Type} [DecidableEq κ] (key : α → κ) (xs : List α) : ∀ a ∈ dd key xs, a ∈ xs := by
  induction xs using snocRec with
  | nil => intro a h; simp [dd] at h
  | snoc xs x ih =>
    intro a h
    rw [dd_snoc] at h
    unfold ddS at h
    split at h
    · exact List.mem_append_left _ (ih a h)
    · rcases List.mem_append.mp h with h | h
      · exact List.mem_append_left _ (ih a h)
      · exact List.mem_append_right _ h
theorem dd_keys {α κ : Type} [DecidableEq κ] (key : α → κ) (xs : List α) : ∀ k, k ∈ (dd key xs).map key ↔ k ∈ xs.map key := by
  induction xs using snocRec with
  | nil => intro k; simp [dd]
  | snoc xs x ih =>
    intro k
    rw [dd_snoc, ddS_keys, ih, List.map_append, List.mem_append]
    simp
theorem dd_grow (n : Nat) (qs : List (Int × Ws)) (found : List RC) (hf : ∀ p ∈ found, p.2.length = n) : dd (·.2) (grow found qs) = grow (dd (·.2) found) (dd (·.2) qs) := by
  induction found using snocRec with
  | nil => simp [grow, dd]
  | snoc found a ih =>
    have ih := ih fun p hp => hf p (List.mem_append_left _ hp)
    have ha := hf a (List.mem_append_right _ (List.mem_singleton.mpr rfl))
    have e : grow (found ++ [a]) qs = grow found qs ++ qs.map (ext a) := by unfold grow; rw [List.flatMap_append]; simp
    rw [e]
    show (grow found qs ++ qs.map (ext a)).foldl (ddS (·.2)) [] = _
    rw [List.foldl_append]
    show (qs.map (ext a)).foldl (ddS (·.2)) (dd (·.2) (grow found qs)) = _
    by_cases z : a.2 ∈ (dd (·.2) found).map (·.2)
    · have s1 : ddS (·.2) (dd (·.2) found) a = dd (·.2) found := if_pos z
      rw [ih, dd_snoc, s1]
      refine fold_in _ a qs fun q hq => ?_
      obtain ⟨b, hb, e⟩ := List.mem_map.mp z
      have hq2 : q.2 ∈ (dd (·.2) qs).map (·.2) := (dd_keys (·.2) qs q.2).mpr (List.mem_map.mpr ⟨q, hq, rfl⟩)
      obtain ⟨r, hr, e2⟩ := List.mem_map.mp hq2
      refine List.mem_map.mpr ⟨ext b r, List.mem_flatMap.mpr ⟨b, hb, List.mem_map.mpr ⟨r, hr, rfl⟩⟩, ?_⟩
      show b.2 ++ [r.2] = a.2 ++ [q.2]
      rw [show b.2 = a.2 from e, show r.2 = q.2 from e2]
    · have s1 : ddS (·.2) (dd (·.2) found) a = dd (·.2) found ++ [a] := if_neg z
      rw [ih, dd_snoc, s1, fold_new (n := n)]
      · unfold grow; rw [List.flatMap_append]; simp
      · intro p hp
        obtain ⟨b, hb, q, _, rfl⟩ := grow_mem hp
        have := hf b (List.mem_append_left _ (dd_mem _ _ b hb))
        show (b.2 ++ [q.2]).length = n + 1
        rw [List.length_append, this]; rfl
      · exact ha
      · intro p hp e2
        obtain ⟨b, hb, q, _, rfl⟩ := grow_mem hp
        refine z (List.mem_map.mpr ⟨b, hb, ?_⟩)
        have hb2 := hf b (List.mem_append_left _ (dd_mem _ _ b hb))
        have e2 : (b.2 ++ [q.2]).take n = a.2 := e2
        rw [← hb2, List.take_left] at e2
        exact e2
theorem allL_len2 (t : Bool) (dur : List Ws) (pend : List (Int × Ws)) : ∀ n, ∀ p ∈ allL (outs t dur pend n), p.2.length = n
  | 0, p, hp => by
    have e : p = ([], []) := by simpa [outs, allL, allFrom] using hp
    rw [e]; rfl
  | n + 1, p, hp => by
    rw [outs_snoc, allL_snoc] at hp
    obtain ⟨b, hb, q, _, rfl⟩ := grow_mem hp
    have := allL_len2 t dur pend n b hb
    show (b.2 ++ [q.2]).length = n + 1
    rw [List.length_append, this]; rfl
/-- the different images with their first rows -/
theorem firsts_all (t : Bool) (dur : List Ws) (pend : List (Int × Ws)) : ∀ n, dd (·.2) (allL (outs t dur pend n)) = firstsL (outs t dur pend n)
  | 0 => by simp [outs, allL, allFrom, firstsL, dd, ddS]
  | n + 1 => by
    rw [outs_snoc, allL_snoc, firstsL_snoc, dd_grow n _ _ (allL_len2 t dur pend n), firsts_all t dur pend n]; rfl
end S5
namespace S5
open PySem L2
/-! ### words, contents, writes as data -/
def wd (ws : List Int) : PyData := .tuple (ws.map .int)
def ct (cs : List (List Int)) : PyData := .tuple (cs.map wd)
def pw (p : Int × List Int) : PyData := .tuple [.int p.1, wd p.2]
def snap (dur : List (List Int)) (pend : List (Int × List Int)) : PyData := .tuple [ct dur, .tuple (pend.map pw)]
theorem Ft.ofWd {H : Hp} {ws : List Int} {v : V} (h : Ft H (wd ws) v) : ∃ p, v = .ref p ∧ H p = some (.tup (ws.map V.int)) := by
  obtain ⟨p, xs, e, h1, h2⟩ := Ft.tup h
  exact ⟨p, e, by rw [h1, h2.ints_eq]⟩
theorem Ft.mkWd {H : Hp} {ws : List Int} {p : Addr} (h : H p = some (.tup (ws.map V.int))) : Ft H (wd ws) (.ref p) := Ft.mkTup h .ints
/-! ### data that compare -/
def Shp (n : Nat) (d : PyData) : Prop := d.canLay0 = true ∧ d.depth ≤ n
theorem canAll : ∀ {ds : List PyData}, (∀ d ∈ ds, d.canLay0 = true) → PyData.canLayAll0 ds = true
  | [], _ => rfl
  | d :: ds, h => by
    rw [PyData.canLayAll0, h d (List.mem_cons_self ..), canAll fun x hx => h x (List.mem_cons_of_mem _ hx)]; rfl
theorem depAll {n : Nat} : ∀ {ds : List PyData}, (∀ d ∈ ds, d.depth ≤ n) → PyData.depthAll ds ≤ n
  | [], _ => Nat.zero_le _
  | d :: ds, h => by
    rw [PyData.depthAll]
    exact Nat.max_le.mpr ⟨h d (List.mem_cons_self ..), depAll fun x hx => h x (List.mem_cons_of_mem _ hx)⟩
theorem Shp.int (n : Nat) (i : Int) : Shp n (.int i) := ⟨by simp [PyData.canLay0], by simp [PyData.depth]⟩
theorem Shp.tuple {n : Nat} {ds : List PyData} (h : ∀ d ∈ ds, Shp n d) : Shp (n + 1) (.tuple ds) := by
  refine ⟨?_, ?_⟩
  · rw [PyData.canLay0]; exact canAll fun d hd => (h d hd).1
  · rw [PyData.depth]; exact Nat.succ_le_succ (depAll fun d hd => (h d hd).2)
theorem Shp.list {n : Nat} {ds : List PyData} (h : ∀ d ∈ ds, Shp n d) : Shp (n + 1) (.list ds) := by
  refine ⟨?_, ?_⟩
  · rw [PyData.canLay0]; exact canAll fun d hd => (h d hd).1
  · rw [PyData.depth]; exact Nat.succ_le_succ (depAll fun d hd => (h d hd).2)
theorem Shp.mono {n m : Nat} {d : PyData} (h : Shp n d) (l : n ≤ m) : Shp m d := ⟨h.1, Nat.le_trans h.2 l⟩
theorem Shp.ok {n : Nat} {d : PyData} (h : Shp n d) (l : n ≤ 64) : SeqAt.shaped d = true := by
  unfold SeqAt.shaped
  rw [h.1, decide_eq_true (Nat.le_trans h.2 l)]; rfl
theorem Shp.eq {n : Nat} {d : PyData} (h : Shp n d) : PyData.eqv d d = true := SeqAt.eqv_refl d h.1
theorem shp_wd (ws : List Int) : Shp 1 (wd ws) := Shp.tuple fun d hd => by
  obtain ⟨i, _, rfl⟩ := List.mem_map.mp hd
  exact Shp.int 0 i
theorem shp_ct (cs : List (List Int)) : Shp 2 (ct cs) := Shp.tuple fun d hd => by
  obtain ⟨i, _, rfl⟩ := List.mem_map.mp hd
  exact shp_wd i
theorem shp_pw (p : Int × List Int) : Shp 2 (pw p) := Shp.tuple fun d hd => by
  rcases List.mem_cons.mp hd with rfl | hd
  · exact Shp.int 1 _
  · rw [List.mem_singleton.mp hd]; exact shp_wd _
theorem shp_snap (dur : List (List Int)) (pend : List (Int × List Int)) : Shp 4 (snap dur pend) := Shp.tuple fun d hd => by
  rcases List.mem_cons.mp hd with rfl | hd
  · exact (shp_ct _).mono (by decide)
  · rw [List.mem_singleton.mp hd]
    refine Shp.tuple fun d hd => ?_
    obtain ⟨i, _, rfl⟩ := List.mem_map.mp hd
    exact shp_pw i
end S5
namespace S5
open PySem L2
/-! ### a list of one's own that grows, all else stands -/
def LAt (d : Addr) (H0 : Hp) (es : List PyData) (H : Hp) : Prop := ∃ acc, H d = some (.lst acc) ∧ FtAll H es acc ∧ Chg [] [] H0 H
section
variable {d : Addr} {H0 H H4 : Hp} {es fs : List PyData} {e : PyData} {y : V}
theorem LAt.start (n : H0 d = none) : LAt d H0 [] (upd H0 d (.lst [])) := ⟨[], upd_same, .nil, Chg.mk0 n _⟩
theorem LAt.chg (x : LAt d H0 es H) : Chg [] [] H0 H := x.choose_spec.2.2
theorem LAt.keep (x : LAt d H0 es H) (c : Chg [] [] H H4) : LAt d H0 es H4 := by
  obtain ⟨acc, h1, h2, h3⟩ := x
  exact ⟨acc, c.keep _ _ h1 (by intro h; cases h), h2.mono c.tups, h3.trans c⟩
theorem chg_own {H5 : Hp} {o o' : HO} (n : H0 d = none) (c : Chg [] [] H0 H) (h : H d = some o) (ho : ∀ xs, o ≠ .tup xs) : Chg [] [] H0 (upd H d o') := by
  refine ⟨fun b u e nb => ?_, fun b xs e => ?_, fun b e => ?_, fun _ h => .inl h⟩
  · rw [upd_ne (ne_of_none e n)]; exact c.keep b u e nb
  · rw [upd_ne (ne_of_none e n)]; exact c.tups b xs e
  · by_cases zb : b = d
    · rw [zb]; exact n
    · rw [upd_ne zb] at e; exact c.dom b e
theorem tups_own {o o' : HO} (h : H d = some o) (ho : ∀ xs, o ≠ .tup xs) : Tups H (upd H d o') := fun b xs e => by
  rw [upd_ne fun zb => ?_]
  · exact e
  · rw [zb, h] at e; exact ho xs (Option.some.inj e)
theorem LAt.put (x : LAt d H0 es H) (n : H0 d = none) {acc : List V} (h : FtAll H fs acc) : LAt d H0 fs (upd H d (.lst acc)) := by
  obtain ⟨acc0, h1, h2, h3⟩ := x
  exact ⟨acc, upd_same, h.mono (tups_own h1 fun _ z => by cases z), chg_own (H5 := H) n h3 h1 fun _ z => by cases z⟩
theorem LAt.push (x : LAt d H0 es H) (n : H0 d = none) (c : Chg [] [] H H4) (f : Ft H4 e y) (hl : es.length < sizeLine) :
    ∃ acc, H4 d = some (.lst acc) ∧ acc.length < sizeLine ∧ LAt d H0 (es ++ [e]) (upd H4 d (.lst (acc ++ [y]))) := by
  have x4 := x.keep c
  obtain ⟨acc, h1, h2, h3⟩ := id x4
  exact ⟨acc, h1, by rw [h2.len]; exact hl, x4.put n (h2.app (.cons f .nil))⟩
end
/-- a loop in general: a word that holds at each turn -/
theorem it_loop {J : It} {n : Nat} {Nx : Hp → Prop} {B : V → Hp → (Hp → Prop) → Prop} {H0 : Hp} (Pv : Nat → Hp → Prop) (h0 : Pv 0 H0) (hstop : ∀ H, Pv n H → J.stop n H ∧ Nx H) (hgo : ∀ i H, i < n → Pv i H → J.go i H)
    (hs : ∀ i x H H', i < n → Pv i H → J.yld i H x H' → B x H' (Pv (i + 1))) :
    ∃ W : Nat → Nat → Hp → Prop, (∃ m, W 0 m H0) ∧ ∀ i m H, W i m H → (J.stop i H ∧ Nx H) ∨ (J.go i H ∧ ∃ N : Hp → Prop, (∀ H', N H' → ∃ m', m' < m ∧ W (i + 1) m' H') ∧ ∀ x H', J.yld i H x H' → B x H' N) := by
  refine ⟨fun i m H => m = n - i ∧ i ≤ n ∧ Pv i H, ⟨n, by simp, Nat.zero_le _, h0⟩, ?_⟩
  rintro i m H ⟨rfl, hi, p⟩
  by_cases hlt : i < n
  · exact .inr ⟨hgo i H hlt p, Pv (i + 1), fun H' p' => ⟨n - (i + 1), by omega, rfl, hlt, p'⟩, fun x H' y => hs i x H H' hlt p y⟩
  · have e : i = n := by omega
    subst e
    exact .inl (hstop H p)
theorem cutV_one (x : V) (xs : List V) : cutV (x :: xs) (some 1) none = xs := by
  unfold cutV
  have e1 : HT.sIx (x :: xs).length 0 (some 1) = 1 := by
    show (if (1 : Int) < 0 then ((1 : Int) + ((x :: xs).length : Int)).toNat else min (1 : Int).toNat (x :: xs).length) = 1
    rw [if_neg (by decide), List.length_cons]
    show min 1 (xs.length + 1) = 1
    omega
  rw [e1]
  show (xs.take ((x :: xs).length - 1)) = xs
  rw [List.length_cons, Nat.add_sub_cancel, List.take_length]
theorem cutV_last (xs : List V) (h : xs ≠ []) : cutV xs (some (-1)) none = xs.drop (xs.length - 1) := by
  unfold cutV
  have hl : 1 ≤ xs.length := List.length_pos_iff.mpr h
  have e1 : HT.sIx xs.length 0 (some (-1)) = xs.length - 1 := by
    show (if (-1 : Int) < 0 then ((-1 : Int) + (xs.length : Int)).toNat else min (-1 : Int).toNat xs.length) = _
    rw [if_pos (by decide)]
    omega
  rw [e1]
  show (xs.drop (xs.length - 1)).take (xs.length - (xs.length - 1)) = _
  rw [List.take_of_length_le (by rw [List.length_drop]; omega)]
theorem cutV_take (xs : List V) (k : Nat) (h : k ≤ xs.length) : cutV xs none (some (k : Int)) = xs.take k := by
  unfold cutV
  rw [HT.sIx_none, HT.sIx_nat, List.drop_zero, Nat.sub_zero, Nat.min_eq_left h]
theorem cutV_drop (xs : List V) (k : Nat) : cutV xs (some (k : Int)) none = xs.drop k := by
  unfold cutV
  rw [HT.sIx_none, HT.sIx_nat, List.take_of_length_le (by rw [List.length_drop]; omega)]
  by_cases h : k ≤ xs.length
  · rw [Nat.min_eq_left h]
  · rw [Nat.min_eq_right (by omega), List.drop_of_length_le (Nat.le_refl _), List.drop_of_length_le (by omega)]
theorem FtAll.drop {H : Hp} : ∀ {ds : List PyData} {vs : List V} (n : Nat), FtAll H ds vs → FtAll H (ds.drop n) (vs.drop n)
  | _, _, 0, h => h
  | [], [], n + 1, _ => .nil
  | _ :: _, _ :: _, n + 1, h => h.un.2.drop n
  | [], _ :: _, _ + 1, h => h.no1.elim
  | _ :: _, [], _ + 1, h => h.no2.elim
theorem FtAll.take {H : Hp} : ∀ {ds : List PyData} {vs : List V} (n : Nat), FtAll H ds vs → FtAll H (ds.take n) (vs.take n)
  | _, _, 0, h => .nil
  | [], [], n + 1, _ => .nil
  | _ :: _, _ :: _, n + 1, h => .cons h.un.1 (h.un.2.take n)
  | [], _ :: _, _ + 1, h => h.no1.elim
  | _ :: _, [], _ + 1, h => h.no2.elim
end S5
namespace S5
open PySem L2
theorem Ft.ofSnap {H : Hp} {dur : List Ws} {pend : List (Int × Ws)} {v : V} (h : Ft H (snap dur pend) v) : ∃ p c pp cs ps, v = .ref p ∧ H p = some (.tup [.ref c, .ref pp]) ∧ H c = some (.tup cs) ∧ FtAll H (dur.map wd) cs ∧ H pp = some (.tup ps) ∧ FtAll H (pend.map pw) ps := by
  obtain ⟨p, xs, rfl, h1, h2⟩ := Ft.tup h
  match xs, h2 with
  | [x, y], h2 =>
    obtain ⟨c, cs, rfl, k1, k2⟩ := Ft.tup h2.un.1
    obtain ⟨pp, ps, rfl, k3, k4⟩ := Ft.tup h2.un.2.un.1
    exact ⟨p, c, pp, cs, ps, rfl, h1, k1, k2, k3, k4⟩
  | [], h2 => exact h2.no2.elim
  | [_], h2 => exact h2.un.2.no2.elim
  | _ :: _ :: _ :: _, h2 => exact h2.un.2.un.2.no1.elim
theorem Ft.ofPw {H : Hp} {p : Int × Ws} {v : V} (h : Ft H (pw p) v) : ∃ q w, v = .ref q ∧ H q = some (.tup [.int p.1, w]) ∧ Ft H (wd p.2) w := by
  obtain ⟨q, xs, rfl, h1, h2⟩ := Ft.tup h
  match xs, h2 with
  | [x, y], h2 =>
    have := h2.un.1.int
    subst this
    exact ⟨q, y, rfl, h1, h2.un.2.un.1⟩
  | [], h2 => exact h2.no2.elim
  | [_], h2 => exact h2.un.2.no2.elim
  | _ :: _ :: _ :: _, h2 => exact h2.un.2.un.2.no1.elim
theorem torn_le {W : Nat} : ∀ (ps : List (Ws × Ws)), (∀ q ∈ ps, q.1.length ≤ W) → ps.length ≤ 1000 → W ≤ 1000 → (ps.flatMap tornP).length ≤ 1000000 := fun ps h h2 h3 => by
  have g : ∀ (ps : List (Ws × Ws)), (∀ q ∈ ps, q.1.length ≤ W) → (ps.flatMap tornP).length ≤ ps.length * W := by
    intro ps
    induction ps with
    | nil => intro _; simp
    | cons a r ih =>
      intro h
      have := ih fun q hq => h q (List.mem_cons_of_mem _ hq)
      have h0 := h a (List.mem_cons_self ..)
      rw [List.flatMap_cons, List.length_append, List.length_cons, Nat.add_mul, Nat.one_mul]
      unfold tornP
      rw [List.length_map, List.length_range]
      unfold tornP at this
      omega
  have := g ps h
  have : ps.length * W ≤ 1000 * 1000 := Nat.mul_le_mul h2 h3
  omega
structure Good (W : Nat) (dur : List Ws) (pend : List (Int × Ws)) : Prop where
  w1 : 1 ≤ W
  w2 : W ≤ 1000
  gdur : ∀ ws ∈ dur, ws.length = W
  gpend : ∀ p ∈ pend, p.2.length = W
  few : pend.length ≤ 1000
def spOutc : Sp := fun vs H Q _ => ∃ (v : V) (s : Nat) (t : Bool) (dur : List Ws) (pend : List (Int × Ws)) (W : Nat), vs = [v, .int (s : Int), .bl t] ∧ Ft H (snap dur pend) v ∧ Good W dur pend ∧ s < dur.length ∧
  ∀ H' l, H l = none → LAt l H ((outsOf t dur pend s).map wd) H' → Q (.ref l) H'
theorem outsOf_len {W : Nat} {t : Bool} {dur : List Ws} {pend : List (Int × Ws)} {s : Nat} (g : Good W dur pend) : (outsOf t dur pend s).length ≤ 2000000 := by
  have h := lefts_len (W := W) t (sel (s : Int) pend) (dur.getD s []) (sel_mem g.gpend)
  have h2 := sel_len (s : Int) pend
  have h3 := g.few
  have h4 := g.w2
  have h5 : (sel (s : Int) pend).length * (W + 1) ≤ 1000 * 1001 := Nat.mul_le_mul (by omega) (by omega)
  unfold outsOf
  omega
theorem sl {n : Nat} (h : n ≤ 10000000) : n < sizeLine := by rw [sizeLine_eq]; omega
theorem sel_step (s : Int) (pend : List (Int × Ws)) (i : Nat) (p : Int × Ws) (h : pend[i]? = some p) : sel s (pend.take (i + 1)) = sel s (pend.take i) ++ (if p.1 = s then [p.2] else []) := by
  unfold sel
  rw [List.take_add_one, h, List.filter_append, List.map_append]
  show _ ++ ([p].filter _).map _ = _
  by_cases e : p.1 = s
  · rw [if_pos e, List.filter_cons_of_pos (by simpa using e)]; rfl
  · rw [if_neg e, List.filter_cons_of_neg (by simpa using e)]; rfl
section
variable {P : Program} {w : World} {K : PySem.W.Frag} {mg : Str → Option Value} {base : Heap} {D : Defs}
theorem sc_outcomes : FnScope ["snapshot", "sector", "tears", "contents", "pending", "whole", "torn", "old", "new", "at", "words", "many"] ["snapshot", "sector", "tears"] (defScope s_outcomes) := ⟨rfl, rfl, rfl, by decide +kernel, rfl, by decide +kernel, by decide +kernel⟩
theorem ok_outcomes (O : Ok P K mg D) : FnOk P w K mg base CX0 1 D.foutcomes D.doutcomes ["snapshot", "sector", "tears"] spOutc := by
  refine O.Foutcomes.ok sc_outcomes (fun vs H Q E h => ?_) (fun cdv A outer s H vs Q E hr h => ?_)
  · obtain ⟨v, s, t, dur, pend, W, rfl, _⟩ := h
    rfl
  obtain ⟨v, sec, t, dur, pend, W, rfl, hv, G, hs, q⟩ := h
  have nd := sc_outcomes.nd
  have hu := hu_of hr
  have bk : ∀ own scope, blkC ["snapshot", "sector", "tears", "contents", "pending", "whole", "torn", "old", "new", "at", "words", "many"] (defScope s_outcomes) scope own = true → BlkOk ["snapshot", "sector", "tears", "contents", "pending", "whole", "torn", "old", "new", "at", "words", "many"] (defScope s_outcomes) scope own := fun own scope h => blkOk_by h
  refine ⟨_, (pss_cons (ps_asg (pv 0) (pg_tup rfl (pgs_cons (pg_name (i := 3) nd rfl (Or.inl rfl)) (pgs_cons (pg_name (i := 4) nd rfl (Or.inl rfl)) pgs_nil))))
    (pss_cons (ps_set (i := 5) nd rfl (Or.inl rfl) (pe_op op_cat (pe_lst (pa_cons (pe_ix (r := rIxT K) ix_tup (pv 3) (pv 1) (fun _ _ => rfl)) pa_nil)) (pe_lc (own := [("at", 9), ("words", 10)]) (g := gTup K 2 (gCons (gName 9) (gCons (gName 10) gNil))) (by rfl) nd (pi_tupK (K := K) (pv 4)) (bk [("at", 9), ("words", 10)] _ (by decide +kernel)) (fun _ _ _ _ _ => (pg_tup rfl (pgs_cons (pg_name (i := 9) nd rfl (Or.inl rfl)) (pgs_cons (pg_name (i := 10) nd rfl (Or.inl rfl)) pgs_nil)))) (fun _ _ _ _ _ => (pts_one (pt_cmpR op_eq (pv 9) (pv 1) (nomark _)))) (fun _ _ _ _ _ => (pv 10)))))
    (pss_cons (ps_if (pt_not (pt_val (pv 2))) (pss_one (ps_ret (pv 5))) pss_nil)
    (pss_cons (ps_set (i := 6) nd rfl (Or.inl rfl) (pe_lst pa_nil))
    (pss_cons (ps_for PassesOwn.never rfl (pi_zip (by rfl) O.zzip (pa_cons (pv 5) (pa_cons (pe_slice (r := rSlL K) sl_list (pv 5) (po_some pe_int) po_none) pa_nil))) (pg_tup rfl (pgs_cons (pg_name (i := 7) nd rfl (Or.inr rfl)) (pgs_cons (pg_name (i := 8) nd rfl (Or.inr rfl)) pgs_nil))) (pss_one (ps_expr (pe_bm PySem.F.plainAttrs_list PySem.F.slot_list_extend PySem.F.type_list_extend mt_extend (pv 6) (pa_cons (pe_lc (own := [("many", 11)]) (g := gName 11) (by rfl) nd (pi_range1 (by rfl) O.zrange (pa_cons (pe_callB (r := rLenQ K) call_lenK (by rfl) O.zlen PySem.boot_len (pa_cons (pv 7) pa_nil)) pa_nil)) (bk [("many", 11)] _ (by decide +kernel)) (fun _ _ _ _ _ => (pg_name (i := 11) nd rfl (Or.inl rfl))) (fun _ _ _ _ _ => pts_nil) (fun _ _ _ _ _ => (pe_op (r := rCatA K) op_catA (pe_slice (r := rSlA K) sl_tupA (pv 8) po_none (po_some (pv 11))) (pe_slice (r := rSlA K) sl_tupA (pv 7) (po_some (pv 11)) po_none)))) pa_nil)))))
    (pss_one (ps_ret (pe_op op_cat (pv 6) (pe_slice (r := rSlL K) sl_list (pv 5) (po_some (pe_un un_neg pe_int)) po_none))))))))), ?_⟩
  obtain ⟨p, c, pp, cs, ps, rfl, h1, h2, h3, h4, h5⟩ := hv.ofSnap
  refine ⟨_, rfl, p, _, rfl, SqT.of h1, rfl, _, _, rfl, _, _, rfl, rfl, ?_⟩
  obtain ⟨x, hx, fx⟩ := h3.get (i := sec) (d := wd (dur.getD sec [])) (by rw [List.getElem?_map, List.getElem?_eq_getElem hs, List.getD_eq_getElem?_getD, List.getElem?_eq_getElem hs]; rfl)
  refine ⟨_, rfl, _, rfl, c, cs, (sec : Int), x, rfl, rfl, SqT.of h2, at_of (j := sec) (by omega) hx, (by show 1 ≤ sizeLine; decide), fun l1 nl1 => ?_⟩
  have g1 : Chg [] [] H (upd H l1 (.lst [x])) := Chg.mk0 nl1 _
  have h4' := g1.tups _ _ h4
  refine ⟨_, rfl, pp, rfl, ⟨ps, SqT.of h4'⟩, fun d nd1 => ?_⟩
  have lp := h5.len
  rw [List.length_map] at lp
  refine it_loop (n := ps.length) (fun i H' => LAt d (upd H l1 (.lst [x])) ((sel (sec : Int) (pend.take i)).map wd) H') (LAt.start nd1) (fun H' x' => ⟨⟨ps, SqT.of (x'.chg.tups _ _ h4'), Nat.le_refl _⟩, ?_⟩)
    (fun i H' hi x' => ⟨ps, ps[i], SqT.of (x'.chg.tups _ _ h4'), List.getElem?_eq_getElem hi⟩) ?_
  rotate_left
  · intro i y H' H'' hi x' yl
    obtain ⟨rfl, yy⟩ := yl
    have hy := yy ps (SqT.of (x'.chg.tups _ _ h4'))
    have hpi : pend[i]? = some pend[i] := List.getElem?_eq_getElem (by omega)
    obtain ⟨y2, e2, fy⟩ := h5.get (i := i) (d := pw pend[i]) (by rw [List.getElem?_map, hpi]; rfl)
    rw [hy] at e2
    cases e2
    obtain ⟨qq, wv, rfl, k1, k2⟩ := fy.ofPw
    have tt := (g1.trans x'.chg).tups
    refine ⟨qq, _, rfl, SqT.of (tt _ _ k1), rfl, _, _, rfl, _, _, rfl, rfl, ?_⟩
    refine ⟨rfl, _, rfl, _, rfl, rfl, _, rfl, ite2 (fun z => ?_) (fun z => ?_)⟩
    · have e : pend[i].1 = (sec : Int) := by simpa using z
      have := x'.push (e := wd pend[i].2) (y := wv) nd1 (Chg.refl _ _) (k2.mono tt) (by rw [List.length_map]; have := sel_len (sec : Int) (pend.take i); have := List.length_take_le i pend; exact sl (by have := G.few; omega))
      refine ⟨_, rfl, ?_⟩
      rw [sel_step _ _ _ _ hpi, if_pos e, List.map_append]
      exact this
    · have e : ¬ pend[i].1 = (sec : Int) := by simpa using z
      show LAt d _ _ _
      rw [sel_step _ _ _ _ hpi, if_neg e, List.append_nil]
      exact x'
  rw [lp, List.take_length] at x'
  obtain ⟨acc, k1, k2, k3⟩ := x'
  have hl1 := k3.keep _ _ upd_same (by intro h; cases h)
  have la := k2.len
  rw [List.length_map] at la
  have lsel := sel_len (sec : Int) pend
  have few := G.few
  refine ⟨l1, d, [x], acc, rfl, rfl, hl1, k1, Nat.le_of_lt (sl (by show 1 + _ ≤ _; omega)), fun l nl => ?_⟩
  have g2 := g1.trans k3
  have nl0 := g2.dom _ nl
  have g3 : Chg [] [] H (upd H' l (.lst ([x] ++ acc))) := g2.trans (Chg.mk0 nl _)
  have fx3 := fx.mono g3.tups
  have fa3 := k2.mono (Chg.mk0 (fp := []) nl (.lst ([x] ++ acc))).tups
  have hl3 : upd H' l (.lst ([x] ++ acc)) l = some (.lst (x :: acc)) := upd_same
  generalize upd H' l (.lst ([x] ++ acc)) = H3 at g3 fx3 fa3 hl3
  generalize hsl : sel (sec : Int) pend = ws at *
  generalize hw0 : dur.getD sec [] = w0 at *
  have hW0 : w0.length = W := by
    rw [← hw0, List.getD_eq_getElem?_getD, List.getElem?_eq_getElem hs]
    exact G.gdur _ (List.getElem_mem hs)
  have hWs : ∀ w ∈ ws, w.length = W := by rw [← hsl]; exact sel_mem G.gpend
  have hout : outsOf t dur pend sec = lefts t w0 ws := by unfold outsOf; rw [hsl, hw0]
  rw [hout] at q
  refine ⟨_, rfl, t, rfl, ?_⟩
  cases t with
  | false =>
    refine iteT ⟨_, rfl, q _ l nl0 ⟨x :: acc, hl3, ?_, g3⟩⟩
    rw [lefts_false]
    exact .cons fx3 fa3
  | true =>
  refine iteF ?_
  refine ⟨Nat.zero_le _, fun tn ntn => ?_⟩
  have ntn0 := g3.dom _ ntn
  have ntl : tn ≠ l := fun z => by rw [z, hl3] at ntn; cases ntn
  have hl4 := (Chg.mk0 (fp := []) ntn (.lst [])).keep _ _ hl3 (by intro h; cases h)
  refine ⟨_, rfl, _, rfl, 1, rfl, l, x :: acc, rfl, SqL.of hl4, fun l2 nl2 => ?_⟩
  rw [cutV_one]
  have fW : FtAll H3 ((w0 :: ws).map wd) (x :: acc) := .cons fx3 fa3
  have hl5 := (Chg.mk0 (fp := []) nl2 (.lst acc)).keep _ _ hl4 (by intro h; cases h)
  have nl2' := (Chg.mk0 (fp := []) ntn (.lst [])).dom _ nl2
  have ntl2 : tn ≠ l2 := fun z => by rw [z] at nl2; rw [upd_same] at nl2; cases nl2
  have L0 : LAt tn H3 ((((w0 :: ws).zip ws).take 0).flatMap tornP |>.map wd) (upd (upd H3 tn (.lst [])) l2 (.lst acc)) := (LAt.start ntn).keep (Chg.mk0 nl2 _)
  refine ⟨l, l2, x :: acc, acc, rfl, SqL.of hl5, SqL.of upd_same, for_it (walk_zip (n := acc.length) (by rw [List.length_cons]; omega))
    (fun i σ H' => ∃ x7 x8, σ = [some (.ref p), some (.int (sec : Int)), some (.bl true), some (.ref c), some (.ref pp), some (.ref l), some (.ref tn), x7, x8, none, none, none] ∧ H' l = some (.lst (x :: acc)) ∧ H' l2 = some (.lst acc) ∧
      LAt tn H3 ((((w0 :: ws).zip ws).take i).flatMap tornP |>.map wd) H') ⟨none, none, rfl, hl5, upd_same, L0⟩ (fun i σ H' _ ⟨_, _, _, e1, e2, _⟩ => ⟨SqL.of e1, SqL.of e2⟩) ?_ ?_⟩
  · rintro i y σ H4 H5 hi ⟨x7, x8, rfl, e1, e2, L4⟩ ⟨T, a, b, rfl, nT, rfl, ea, eb⟩
    have hiw : i < ws.length := by omega
    obtain ⟨a', ea', fa⟩ := fW.get (i := i) (d := wd ((w0 :: ws)[i]'(by rw [List.length_cons]; omega))) (by rw [List.getElem?_map, List.getElem?_eq_getElem (by rw [List.length_cons]; omega)]; rfl)
    have ea : (x :: acc)[i]? = some a := ea
    have eb : acc[i]? = some b := eb
    rw [ea] at ea'
    cases ea'
    obtain ⟨b', eb', fb⟩ := fa3.get (i := i) (d := wd ws[i]) (by rw [List.getElem?_map, List.getElem?_eq_getElem hiw]; rfl)
    rw [eb] at eb'
    cases eb'
    obtain ⟨oa, rfl, ha⟩ := fa.ofWd
    obtain ⟨nb, rfl, hb⟩ := fb.ofWd
    have hpair : ((w0 :: ws).zip ws)[i]? = some ((w0 :: ws)[i]'(by rw [List.length_cons]; omega), ws[i]) := by
      rw [List.getElem?_zip_eq_some]
      exact ⟨List.getElem?_eq_getElem _, List.getElem?_eq_getElem hiw⟩
    generalize hwa : (w0 :: ws)[i]'(by rw [List.length_cons]; omega) = wa at *
    generalize hwb : ws[i] = wb at *
    have la' : wa.length = W := by
      rw [← hwa]
      have := List.getElem_mem (l := w0 :: ws) (n := i) (by rw [List.length_cons]; omega)
      rcases List.mem_cons.mp this with e | e
      · rw [e]; exact hW0
      · exact hWs _ e
    have lb' : wb.length = W := by rw [← hwb]; exact hWs _ (List.getElem_mem hiw)
    have gT : Chg [] [] H4 (upd H4 T (.tup [.ref oa, .ref nb])) := Chg.mk0 nT _
    have e1' := gT.keep _ _ e1 (by intro h; cases h)
    have e2' := gT.keep _ _ e2 (by intro h; cases h)
    have L5 := L4.keep gT
    have ha5 := (L4.chg.trans gT).tups _ _ ha
    have hb5 := (L4.chg.trans gT).tups _ _ hb
    refine ⟨T, _, rfl, SqT.of upd_same, rfl, _, _, rfl, _, _, rfl, rfl, ?_⟩
    generalize upd H4 T (.tup [.ref oa, .ref nb]) = H5 at *
    obtain ⟨tacc, t1, t2, t3⟩ := id L5
    refine ⟨_, rfl, .inl ⟨rfl, _, SqL.of t1⟩, _, rfl, oa, _, rfl, .inr (SqT.of ha5), _, rfl, by rw [List.length_map]; have := G.w2; omega, by rw [List.length_map]; have := G.w2; omega, fun d2 nd2 => ?_⟩
    rw [show ((((wa.map V.int).length : Nat) : Int)).toNat = wa.length by rw [List.length_map]; omega]
    refine it_loop (n := wa.length) (fun k H6 => LAt d2 H5 (((List.range k).map fun k => wb.take k ++ wa.drop k).map wd) H6) (LAt.start nd2) (fun H6 L6 => ⟨Nat.le_refl _, ?_⟩) (fun k H6 hk _ => hk) ?_
    rotate_left
    · intro k y H6 H7 hk L6 yl
      obtain ⟨rfl, rfl⟩ := yl
      have lk : ((List.range k).map fun k => wb.take k ++ wa.drop k).length < sizeLine := by rw [List.length_map, List.length_range]; exact sl (by have := G.w2; omega)
      have ha6 := L6.chg.tups _ _ ha5
      have hb6 := L6.chg.tups _ _ hb5
      have fin : ∀ (y : V) (H8 : Hp), Chg [] [] H7 H8 → Ft H8 (wd (wb.take k ++ wa.drop k)) y → ∃ acc, H8 d2 = some (.lst acc) ∧ acc.length < sizeLine ∧ LAt d2 H5 (((List.range (k + 1)).map fun k => wb.take k ++ wa.drop k).map wd) (upd H8 d2 (.lst (acc ++ [y]))) := by
        intro y H8 c8 f8
        have := L6.push nd2 c8 f8 (by rw [List.length_map]; exact lk)
        rw [List.range_succ, List.map_append, List.map_append]
        exact this
      refine ⟨rfl, yes (iteT ?_)⟩
      refine ⟨_, rfl, _, rfl, _, rfl, nb, _, rfl, SqT.of hb6, fun z => ?_, fun _ t9 nt9 => ?_⟩
      · exfalso
        have := z.2
        rw [Int.zero_add, HT.sIx_nat, List.length_map] at this
        omega
      have e9 : cutV (wb.map V.int) none (some (0 + (k : Int))) = (wb.take k).map V.int := by
        rw [Int.zero_add, cutV_take _ _ (by rw [List.length_map]; omega), List.map_take]
      rw [e9]
      have g9 : Chg [] [] H7 (upd H7 t9 (.tup ((wb.take k).map V.int))) := Chg.mk0 nt9 _
      have ha9 := g9.tups _ _ ha6
      have h9 : upd H7 t9 (.tup ((wb.take k).map V.int)) t9 = some (.tup ((wb.take k).map V.int)) := upd_same
      generalize upd H7 t9 (.tup ((wb.take k).map V.int)) = H8 at *
      refine ⟨_, rfl, _, rfl, _, rfl, oa, _, rfl, SqT.of ha9, fun z => ?_, fun z t10 nt10 => ?_⟩
      · have k0 : k = 0 := by
          have := z.1
          rw [Int.zero_add, HT.sIx_nat, List.length_map] at this
          omega
        refine ⟨t9, oa, _, _, rfl, rfl, SqT.of h9, SqT.of ha9, Nat.le_of_lt (sl (by rw [List.length_map, List.length_map, List.length_take]; have := G.w2; omega)), fun _ => ?_, fun z2 => ?_, fun z2 => ?_⟩
        · refine fin _ _ g9 ?_
          rw [k0]
          exact Ft.mkWd ha9
        · exact absurd (by rw [k0]; rfl) z2
        · exact absurd (by rw [k0]; rfl) z2
      · have k0 : k ≠ 0 := fun e => z (by
          rw [e]
          refine ⟨?_, HT.sIx_none _ _⟩
          show HT.sIx _ 0 (some (0 + ((0 : Nat) : Int))) = 0
          rw [Int.zero_add, HT.sIx_nat]; exact Nat.zero_min _)
        have e10 : cutV (wa.map V.int) (some (0 + (k : Int))) none = (wa.drop k).map V.int := by
          rw [Int.zero_add, cutV_drop, List.map_drop]
        rw [e10]
        have g10 : Chg [] [] H8 (upd H8 t10 (.tup ((wa.drop k).map V.int))) := Chg.mk0 nt10 _
        have h10 := g10.tups _ _ h9
        refine ⟨t9, t10, _, _, rfl, rfl, SqT.of h10, SqT.of upd_same, Nat.le_of_lt (sl (by rw [List.length_map, List.length_map, List.length_take, List.length_drop]; have := G.w2; omega)), fun z2 => ?_, fun _ z2 => ?_, fun _ _ p3 np3 => ?_⟩
        · exfalso
          have := congrArg List.length z2
          rw [List.length_map, List.length_take, List.length_nil] at this
          omega
        · exfalso
          have := congrArg List.length z2
          rw [List.length_map, List.length_drop, List.length_nil] at this
          omega
        · refine fin _ _ ((g9.trans g10).trans (Chg.mk0 np3 _)) (Ft.mkWd ?_)
          rw [← List.map_append]
          exact upd_same
    · obtain ⟨acc6, u1, u2, u3⟩ := L6
      have t1' := u3.keep _ _ t1 (by intro h; cases h)
      have lt := t2.len
      have lu := u2.len
      have lz : ((((w0 :: ws).zip ws).take i).flatMap tornP |>.map wd).length ≤ 1000000 := by
        rw [List.length_map]
        exact torn_le (W := W) _ (fun q hq => by
          have := List.mem_of_mem_take hq
          have := List.of_mem_zip this
          rcases List.mem_cons.mp this.1 with e | e
          · rw [e]; omega
          · exact Nat.le_of_eq (hWs _ e)) (by rw [List.length_take, List.length_zip, List.length_cons]; omega) G.w2
      refine ⟨tn, d2, tacc, acc6, rfl, rfl, t1', u1, ?_, ?_⟩
      · exact Nat.le_of_lt (sl (by rw [lt, lu]; simp only [List.length_map, List.length_range] at lz ⊢; have := G.w2; omega))
      · have L6' := L5.keep u3
        have ntl' : tn ≠ l := ntl
        refine ⟨_, _, rfl, (upd_ne ntl'.symm).trans (u3.keep _ _ e1' (by intro h; cases h)), (upd_ne ntl2.symm).trans (u3.keep _ _ e2' (by intro h; cases h)), ?_⟩
        rw [List.take_add_one, hpair, List.flatMap_append, List.map_append]
        refine L6'.put ntn ((t2.mono u3.tups).app ?_)
        have : ([((w0 :: ws)[i]'(by rw [List.length_cons]; omega), ws[i])] : List (Ws × Ws)).flatMap tornP = tornP (wa, wb) := by rw [hwa, hwb]; simp
        show FtAll _ ((([(wa, wb)] : List (Ws × Ws)).flatMap tornP).map wd) _
        rw [List.flatMap_cons, List.flatMap_nil, List.append_nil]
        exact u2
  · rintro σ H4 ⟨x7, x8, rfl, e1, e2, L4⟩
    have lw : acc.length = ws.length := la
    obtain ⟨tacc, t1, t2, t3⟩ := L4
    refine ⟨_, rfl, _, rfl, _, rfl, _, rfl, l, x :: acc, rfl, SqL.of e1, fun p3 np3 => ?_⟩
    rw [cutV_last _ (by intro z; cases z)]
    have g7 : Chg [] [] H4 (upd H4 p3 (.lst ((x :: acc).drop ((x :: acc).length - 1)))) := Chg.mk0 np3 _
    have t1' := g7.keep _ _ t1 (by intro h; cases h)
    have hp3 : upd H4 p3 (.lst ((x :: acc).drop ((x :: acc).length - 1))) p3 = some (.lst ((x :: acc).drop ((x :: acc).length - 1))) := upd_same
    generalize upd H4 p3 (.lst ((x :: acc).drop ((x :: acc).length - 1))) = H5 at *
    have lt := t2.len
    have lz : ((((w0 :: ws).zip ws).take acc.length).flatMap tornP |>.map wd).length ≤ 1000000 := by
      rw [List.length_map]
      exact torn_le (W := W) _ (fun q hq => by
        have := List.mem_of_mem_take hq
        have := List.of_mem_zip this
        rcases List.mem_cons.mp this.1 with e | e
        · rw [e]; omega
        · exact Nat.le_of_eq (hWs _ e)) (by rw [List.length_take, List.length_zip, List.length_cons]; omega) G.w2
    refine ⟨tn, p3, _, _, rfl, rfl, t1', hp3, Nat.le_of_lt (sl (by rw [lt, List.length_drop, List.length_cons]; omega)), fun r nr => ?_⟩
    have g8 := (g3.trans t3).trans g7
    refine q _ r (g8.dom _ nr) ⟨_, upd_same, ?_, g8.trans (Chg.mk0 nr _)⟩
    have tl : Tups H3 (upd H5 r (.lst (tacc ++ (x :: acc).drop ((x :: acc).length - 1)))) := ((t3.trans g7).trans (Chg.mk0 (fp := []) nr _)).tups
    rw [← torn_all G.w1 ws w0 hW0 hWs, List.map_append]
    refine FtAll.app ?_ ?_
    · have := t2.mono (g7.trans (Chg.mk0 (fp := []) nr (.lst (tacc ++ (x :: acc).drop ((x :: acc).length - 1))))).tups
      rw [List.take_of_length_le (by rw [List.length_zip, List.length_cons, lw]; omega)] at this
      exact this
    · have := (fW.mono tl).drop acc.length
      rw [List.length_cons, Nat.add_sub_cancel, ← lw, List.map_drop]
      exact this
end
end S5
namespace S5
open PySem L2
def pr (p : RC) : PyData := .tuple [wd p.1, ct p.2]
def ch (q : Int × Ws) : PyData := .tuple [.int q.1, wd q.2]
theorem Ft.two {H : Hp} {d e : PyData} {v : V} (h : Ft H (.tuple [d, e]) v) : ∃ p x y, v = .ref p ∧ H p = some (.tup [x, y]) ∧ Ft H d x ∧ Ft H e y := by
  obtain ⟨q, xs, rfl, h1, h2⟩ := Ft.tup h
  match xs, h2 with
  | [x, y], h2 => exact ⟨q, x, y, rfl, h1, h2.un.1, h2.un.2.un.1⟩
  | [], h2 => exact h2.no2.elim
  | [_], h2 => exact h2.un.2.no2.elim
  | _ :: _ :: _ :: _, h2 => exact h2.un.2.un.2.no1.elim
/-- t + (y,) -/
theorem cat_one {K : PySem.W.Frag} {H : Hp} {a : Addr} {xs : List V} {ds : List PyData} {y : V} {e : PyData} {Q : VK} (ha : H a = some (.tup xs)) (hd : FtAll H ds xs) (hy : Ft H e y) (hl : xs.length ≤ 1000000)
    (k : ∀ v H', Chg [] [] H H' → Ft H' (.tuple (ds ++ [e])) v → Q v H') : ([y] : List V).length ≤ sizeLine ∧ ∀ t, H t = none → rCatA K (.ref a) (.ref t) (upd H t (.tup [y])) Q := by
  refine ⟨by show 1 ≤ sizeLine; decide, fun t nt => ?_⟩
  have g1 : Chg [] [] H (upd H t (.tup [y])) := Chg.mk0 nt _
  have ha1 := g1.tups _ _ ha
  refine ⟨a, t, xs, [y], rfl, rfl, SqT.of ha1, SqT.of upd_same, Nat.le_of_lt (sl (by show xs.length + 1 ≤ _; omega)), fun z => ?_, (fun _ z => by cases z), fun _ _ p np => ?_⟩
  · refine k _ _ g1 ?_
    have : ds = [] := by
      have := hd.len
      rw [z] at this
      exact List.eq_nil_of_length_eq_zero this.symm
    rw [this]
    exact Ft.mkTup upd_same (.cons (hy.mono g1.tups) .nil)
  · have g2 := g1.trans (Chg.mk0 np (.tup (xs ++ [y])))
    exact k _ _ g2 (Ft.mkTup upd_same ((hd.mono g2.tups).app (.cons (hy.mono g2.tups) .nil)))
def spChoices : Sp := fun vs H Q _ => ∃ (v : V) (s : Nat) (t : Bool) (dur : List Ws) (pend : List (Int × Ws)) (W : Nat), vs = [v, .int (s : Int), .bl t] ∧ Ft H (snap dur pend) v ∧ Good W dur pend ∧ s < dur.length ∧
  ∀ H', Chg [] [] H H' → Q (.int ((outsOf t dur pend s).length : Int)) H'
def spImage : Sp := fun vs H Q _ => ∃ (v r : V) (t : Bool) (dur : List Ws) (pend : List (Int × Ws)) (W : Nat) (row : List Int), vs = [v, .bl t, r] ∧ Ft H (snap dur pend) v ∧ Good W dur pend ∧ Ft H (wd row) r ∧ row.length = dur.length ∧ dur.length ≤ 1000 ∧
  (∀ (i : Nat) (c : Int), row[i]? = some c → 0 ≤ c ∧ c.toNat < (outsOf t dur pend i).length) ∧ ∀ v' H', Chg [] [] H H' → Ft H' (ct (imgOf (outs t dur pend dur.length) row)) v' → Q v' H'
def spRows : Sp := fun vs H Q _ => ∃ (v : V) (t : Bool) (dur : List Ws) (pend : List (Int × Ws)) (W : Nat), vs = [v, .bl t] ∧ Ft H (snap dur pend) v ∧ Good W dur pend ∧ dur.length ≤ 1000 ∧ (allL (outs t dur pend dur.length)).length ≤ 1000000 ∧
  ∀ H' l, H l = none → LAt l H ((allL (outs t dur pend dur.length)).map fun p => wd p.1) H' → Q (.ref l) H'
def spFirsts : Sp := fun vs H Q _ => ∃ (v : V) (s : Nat) (t : Bool) (dur : List Ws) (pend : List (Int × Ws)) (W : Nat), vs = [v, .int (s : Int), .bl t] ∧ Ft H (snap dur pend) v ∧ Good W dur pend ∧ s < dur.length ∧
  ∀ H' l, H l = none → LAt l H ((firsts (outsOf t dur pend s)).map ch) H' → Q (.ref l) H'
def spDistinct : Sp := fun vs H Q _ => ∃ (v : V) (t : Bool) (dur : List Ws) (pend : List (Int × Ws)) (W : Nat), vs = [v, .bl t] ∧ Ft H (snap dur pend) v ∧ Good W dur pend ∧ dur.length ≤ 1000 ∧ (allL (outs t dur pend dur.length)).length ≤ 1000000 ∧
  ∀ H' l, H l = none → LAt l H ((firstsL (outs t dur pend dur.length)).map pr) H' → Q (.ref l) H'
theorem imgOf_outs {t : Bool} {dur : List Ws} {pend : List (Int × Ws)} : ∀ (n : Nat) (row : List Int), row.length = n → imgOf (outs t dur pend n) row = (List.range n).map fun i => (outsOf t dur pend i).getD (row.getD i 0).toNat [] := fun n row h => by
  apply List.ext_getElem?
  intro i
  unfold imgOf outs
  rw [List.getElem?_zipWith, List.getElem?_map, List.getElem?_map]
  by_cases hi : i < n
  · rw [List.getElem?_range hi, List.getElem?_eq_getElem (by omega : i < row.length)]
    have e : row.getD i 0 = row[i]'(by omega) := by rw [List.getD_eq_getElem?_getD, List.getElem?_eq_getElem (by omega : i < row.length)]; rfl
    show some ((outsOf t dur pend i).getD (row[i]'(by omega)).toNat []) = some ((outsOf t dur pend i).getD (row.getD i 0).toNat [])
    rw [e]
  · rw [List.getElem?_eq_none (by rw [List.length_range]; omega)]; rfl
section
variable {P : Program} {w : World} {K : PySem.W.Frag} {mg : Str → Option Value} {base : Heap} {D : Defs}
theorem sc_choices : FnScope ["snapshot", "sector", "tears"] ["snapshot", "sector", "tears"] (defScope s_choices) := ⟨rfl, rfl, rfl, by decide +kernel, rfl, by decide +kernel, by decide +kernel⟩
theorem ok_choices (O : Ok P K mg D) : FnOk P w K mg base CX0 2 D.fchoices D.dchoices ["snapshot", "sector", "tears"] spChoices := by
  have G_outcomes : FnOk P w K mg base CX0 1 D.foutcomes D.doutcomes ["snapshot", "sector", "tears"] spOutc := ok_outcomes O
  refine O.Fchoices.ok sc_choices (fun vs H Q E h => ?_) (fun cdv A outer s H vs Q E hr h => ?_)
  · obtain ⟨v, s, t, dur, pend, W, rfl, _⟩ := h
    rfl
  obtain ⟨v, sec, t, dur, pend, W, rfl, hv, G, hs, q⟩ := h
  have nd := sc_choices.nd
  have hu := hu_of hr
  have bk : ∀ own scope, blkC ["snapshot", "sector", "tears"] (defScope s_choices) scope own = true → BlkOk ["snapshot", "sector", "tears"] (defScope s_choices) scope own := fun own scope h => blkOk_by h
  refine ⟨_, (pss_one (ps_ret (pe_callB (r := rLenQ K) call_lenK (by rfl) O.zlen PySem.boot_len (pa_cons (pe_call G_outcomes (hr.mono (by omega)) rfl O.moutcomes O.Foutcomes.kp O.boutcomes .nil pass0 (pa_cons (pv 0) (pa_cons (pv 1) (pa_cons (pv 2) pa_nil)))) pa_nil)))), ?_⟩
  refine ⟨_, rfl, _, rfl, _, rfl, v, sec, t, dur, pend, W, rfl, hv, G, hs, fun H' l nl L => ?_⟩
  obtain ⟨acc, k1, k2, k3⟩ := L
  refine ⟨l, acc, rfl, .inl (SqL.of k1), ?_⟩
  rw [k2.len, List.length_map]
  exact q _ k3
theorem sc_image : FnScope ["snapshot", "tears", "row", "sector", "choice"] ["snapshot", "tears", "row"] (defScope s_image) := ⟨rfl, rfl, rfl, by decide +kernel, rfl, by decide +kernel, by decide +kernel⟩
theorem ok_image (O : Ok P K mg D) : FnOk P w K mg base CX0 2 D.fimage D.dimage ["snapshot", "tears", "row"] spImage := by
  have G_outcomes : FnOk P w K mg base CX0 1 D.foutcomes D.doutcomes ["snapshot", "sector", "tears"] spOutc := ok_outcomes O
  refine O.Fimage.ok sc_image (fun vs H Q E h => ?_) (fun cdv A outer s H vs Q E hr h => ?_)
  · obtain ⟨v, r, t, dur, pend, W, row, rfl, _⟩ := h
    rfl
  obtain ⟨v, r, t, dur, pend, W, row, rfl, hv, G, hrow, hl, hd, hc, q⟩ := h
  have nd := sc_image.nd
  have hu := hu_of hr
  have bk : ∀ own scope, blkC ["snapshot", "tears", "row", "sector", "choice"] (defScope s_image) scope own = true → BlkOk ["snapshot", "tears", "row", "sector", "choice"] (defScope s_image) scope own := fun own scope h => blkOk_by h
  refine ⟨_, (pss_one (ps_ret (pe_callTy (r := rTupOf K) call_tupK (by rfl) O.ztuple PyProof.Rows.boot_tuple (pa_cons (pe_lc (own := [("sector", 3), ("choice", 4)]) (g := gTup K 2 (gCons (gName 3) (gCons (gName 4) gNil))) (by rfl) nd (pi_enumT (by rfl) O.zenumerate (pa_cons (pv 2) pa_nil)) (bk [("sector", 3), ("choice", 4)] _ (by decide +kernel)) (fun _ _ _ _ _ => (pg_tup rfl (pgs_cons (pg_name (i := 3) nd rfl (Or.inl rfl)) (pgs_cons (pg_name (i := 4) nd rfl (Or.inl rfl)) pgs_nil)))) (fun _ _ _ _ _ => pts_nil) (fun _ _ _ _ _ => (pe_ix (r := rIxL K) ix_list (pe_call G_outcomes (hr.mono (by omega)) rfl O.moutcomes O.Foutcomes.kp O.boutcomes .nil pass0 (pa_cons (pv 0) (pa_cons (pv 3) (pa_cons (pv 1) pa_nil)))) (pv 4) (fun _ _ => rfl)))) pa_nil)))), ?_⟩
  obtain ⟨a, rfl, ha⟩ := hrow.ofWd
  refine ⟨_, rfl, a, _, rfl, SqT.of ha, fun d nd1 => ?_⟩
  refine it_loop (n := row.length) (fun i H' => LAt d H (((List.range i).map fun i => (outsOf t dur pend i).getD (row.getD i 0).toNat []).map wd) H') (LAt.start nd1)
    (fun H' L => ⟨⟨_, SqT.of (L.chg.tups _ _ ha), by rw [List.length_map]; exact Nat.le_refl _⟩, ?_⟩) (fun i H' hi L => ⟨_, .int row[i], SqT.of (L.chg.tups _ _ ha), by rw [List.getElem?_map, List.getElem?_eq_getElem hi]; rfl⟩) ?_
  rotate_left
  · rintro i y H' H'' hi L ⟨T, x, rfl, nT, rfl, yy⟩
    have hx := yy _ (SqT.of (L.chg.tups _ _ ha))
    rw [List.getElem?_map, List.getElem?_eq_getElem hi] at hx
    cases hx
    have gT : Chg [] [] H' (upd H' T (.tup [.int ((i : Nat) : Int), .int row[i]])) := Chg.mk0 nT _
    refine ⟨T, _, rfl, SqT.of upd_same, rfl, _, _, rfl, _, _, rfl, rfl, rfl, yes (iteT ?_)⟩
    refine ⟨_, rfl, _, rfl, _, rfl, v, i, t, dur, pend, W, rfl, hv.mono (L.chg.trans gT).tups, G, by omega, fun H3 l nl L3 => ?_⟩
    obtain ⟨acc, k1, k2, k3⟩ := L3
    obtain ⟨c0, c1⟩ := hc i row[i] (List.getElem?_eq_getElem hi)
    obtain ⟨x, hx, fx⟩ := k2.get (i := row[i].toNat) (d := wd ((outsOf t dur pend i).getD row[i].toNat [])) (by rw [List.getElem?_map, List.getElem?_eq_getElem c1, List.getD_eq_getElem?_getD, List.getElem?_eq_getElem c1]; rfl)
    refine ⟨_, rfl, l, acc, _, x, rfl, rfl, SqL.of k1, at_of (j := row[i].toNat) (by omega) hx, ?_⟩
    have := L.push (e := wd ((outsOf t dur pend i).getD row[i].toNat [])) nd1 (gT.trans k3) fx (by rw [List.length_map, List.length_map, List.length_range]; exact sl (by omega))
    rw [List.range_succ, List.map_append, List.map_append]
    have e : row.getD i 0 = row[i] := by rw [List.getD_eq_getElem?_getD, List.getElem?_eq_getElem hi]; rfl
    show ∃ acc, _ ∧ _ ∧ LAt d H (_ ++ [wd ((outsOf t dur pend i).getD (row.getD i 0).toNat [])]) _
    rw [e]
    exact this
  · obtain ⟨acc, k1, k2, k3⟩ := L
    refine ⟨d, acc, rfl, .inl ⟨SqL.of k1, fun p np => ?_⟩⟩
    have g := Chg.mk0 (fp := []) np (.tup acc)
    refine q _ _ (k3.trans g) ?_
    rw [imgOf_outs _ _ hl, ← hl]
    exact Ft.mkTup upd_same (k2.mono g.tups)
end
end S5
namespace S5
open PySem L2
/-- the part of a product behind i whole turns and j more -/
def gpart (found : List RC) (qs : List (Int × Ws)) (i j : Nat) : List RC := grow (found.take i) qs ++ (match found[i]? with | some p => (qs.take j).map (ext p) | none => [])
theorem gpart_zero (found : List RC) (qs : List (Int × Ws)) (i : Nat) : gpart found qs i 0 = grow (found.take i) qs := by
  unfold gpart
  cases found[i]? <;> simp
theorem gpart_next (found : List RC) (qs : List (Int × Ws)) (i j : Nat) (p : RC) (q : Int × Ws) (hp : found[i]? = some p) (hq : qs[j]? = some q) : gpart found qs i (j + 1) = gpart found qs i j ++ [ext p q] := by
  unfold gpart
  rw [hp]
  show _ ++ (qs.take (j + 1)).map (ext p) = (_ ++ (qs.take j).map (ext p)) ++ [ext p q]
  rw [List.take_add_one, hq, List.map_append, List.append_assoc]; rfl
theorem gpart_full (found : List RC) (qs : List (Int × Ws)) (i : Nat) (p : RC) (hp : found[i]? = some p) : gpart found qs i qs.length = grow (found.take (i + 1)) qs := by
  unfold gpart grow
  rw [hp, List.take_add_one, hp, List.flatMap_append, List.take_length]
  simp
theorem gpart_len (found : List RC) (qs : List (Int × Ws)) (i j : Nat) (hi : i < found.length) (hj : j ≤ qs.length) : (gpart found qs i j).length ≤ found.length * qs.length := by
  unfold gpart
  rw [List.getElem?_eq_getElem hi, List.length_append, grow_len, List.length_take, List.length_map, List.length_take]
  have : i * qs.length + qs.length ≤ found.length * qs.length := by
    rw [← Nat.succ_mul]; exact Nat.mul_le_mul_right _ hi
  have e : min i found.length = i := by omega
  rw [e]
  omega
theorem nks_map {α : Type} (f : α → PyData) : ∀ xs : List α, nks (xs.map f) = xs.map fun x => nk (f x)
  | [] => rfl
  | x :: r => by rw [List.map_cons, nks, nks_map f r]; rfl
theorem nk_wd (ws : Ws) : nk (wd ws) = .tup (ws.map fun i => .num i) := by
  unfold wd
  rw [nk, nks_map]; rfl
theorem nums_inj : ∀ {a b : Ws}, (a.map fun i => NestedKey.num i) = (b.map fun i => NestedKey.num i) → a = b
  | [], [], _ => rfl
  | x :: a, y :: b, h => by
    rw [List.map_cons, List.map_cons] at h
    injection h with h1 h2
    injection h1 with h1
    rw [h1, nums_inj h2]
  | [], _ :: _, h => by cases h
  | _ :: _, [], h => by cases h
theorem nk_wd_inj {a b : Ws} (h : nk (wd a) = nk (wd b)) : a = b := by
  rw [nk_wd, nk_wd] at h
  injection h with h
  exact nums_inj h
theorem nk_ct (cs : List Ws) : nk (ct cs) = .tup (cs.map fun c => nk (wd c)) := by
  unfold ct
  rw [nk, nks_map]
theorem nk_ct_inj : ∀ {a b : List Ws}, nk (ct a) = nk (ct b) → a = b := by
  intro a b h
  rw [nk_ct, nk_ct] at h
  injection h with h
  induction a generalizing b with
  | nil => cases b with
    | nil => rfl
    | cons _ _ => cases h
  | cons x a ih => cases b with
    | nil => cases h
    | cons y b =>
      rw [List.map_cons, List.map_cons] at h
      injection h with h1 h2
      rw [nk_wd_inj h1, ih h2]
theorem nk_depth_wd (ws : Ws) : (nk (wd ws)).depth ≤ 1 := by
  rw [nk_wd, NestedKey.depth]
  have : ∀ ws : Ws, NestedKey.depthAll (ws.map fun i => NestedKey.num i) = 0 := by
    intro ws
    induction ws with
    | nil => rfl
    | cons a r ih => rw [List.map_cons, NestedKey.depthAll, ih]; rfl
  rw [this]; decide
theorem nk_depth_ct (cs : List Ws) : (nk (ct cs)).depth ≤ 2 := by
  rw [nk_ct, NestedKey.depth]
  have : ∀ cs : List Ws, NestedKey.depthAll (cs.map fun c => nk (wd c)) ≤ 1 := by
    intro cs
    induction cs with
    | nil => exact Nat.zero_le _
    | cons a r ih => rw [List.map_cons, NestedKey.depthAll]; exact Nat.max_le.mpr ⟨nk_depth_wd a, ih⟩
  have := this cs
  omega
/-- the rows of a dict stand for items, by their keys -/
theorem lkN_map {α : Type} {kvs : List NRow} {xs : List α} {f : α → PyData} {g : α → V} (h : kvs.map (fun p => (p.1, p.2.2)) = xs.map fun x => (f x, g x)) (k : NestedKey) : (lkN kvs k).isSome = true ↔ ∃ x ∈ xs, nk (f x) = k := by
  unfold lkN
  rw [Option.isSome_map, List.find?_isSome]
  constructor
  · rintro ⟨p, hp, e⟩
    have : (p.1, p.2.2) ∈ xs.map fun x => (f x, g x) := by rw [← h]; exact List.mem_map.mpr ⟨p, hp, rfl⟩
    obtain ⟨x, hx, ex⟩ := List.mem_map.mp this
    have e1 : f x = p.1 := congrArg Prod.fst ex
    exact ⟨x, hx, by rw [e1]; simpa using e⟩
  · rintro ⟨x, hx, e⟩
    have : (f x, g x) ∈ kvs.map fun p => (p.1, p.2.2) := by rw [h]; exact List.mem_map.mpr ⟨x, hx, rfl⟩
    obtain ⟨p, hp, ep⟩ := List.mem_map.mp this
    have e1 : p.1 = f x := congrArg Prod.fst ep
    exact ⟨p, hp, by rw [e1]; simpa using e⟩
section
variable {P : Program} {w : World} {K : PySem.W.Frag} {mg : Str → Option Value} {base : Heap} {D : Defs}
theorem sc_rows : FnScope ["snapshot", "tears", "found", "sector", "many", "row", "choice"] ["snapshot", "tears"] (defScope s_rows) := ⟨rfl, rfl, rfl, by decide +kernel, rfl, by decide +kernel, by decide +kernel⟩
theorem ok_rows (O : Ok P K mg D) : FnOk P w K mg base CX0 3 D.frows D.drows ["snapshot", "tears"] spRows := by
  have G_choices : FnOk P w K mg base CX0 2 D.fchoices D.dchoices ["snapshot", "sector", "tears"] spChoices := ok_choices O
  refine O.Frows.ok sc_rows (fun vs H Q E h => ?_) (fun cdv A outer s H vs Q E hr h => ?_)
  · obtain ⟨v, t, dur, pend, W, rfl, _⟩ := h
    rfl
  obtain ⟨v, t, dur, pend, W, rfl, hv, G, hd, hbig, q⟩ := h
  have nd := sc_rows.nd
  have hu := hu_of hr
  have bk : ∀ own scope, blkC ["snapshot", "tears", "found", "sector", "many", "row", "choice"] (defScope s_rows) scope own = true → BlkOk ["snapshot", "tears", "found", "sector", "many", "row", "choice"] (defScope s_rows) scope own := fun own scope h => blkOk_by h
  refine ⟨_, (pss_cons (ps_set (i := 2) nd rfl (Or.inl rfl) (pe_lst (pa_cons (pe_tup pa_nil) pa_nil)))
    (pss_cons (ps_for PassesOwn.never rfl (pi_range1 (by rfl) O.zrange (pa_cons (pe_callB (r := rLenQ K) call_lenK (by rfl) O.zlen PySem.boot_len (pa_cons (pe_ix (r := rIxT K) ix_tup (pv 0) pe_int (fun _ _ => rfl)) pa_nil)) pa_nil)) (pg_name (i := 3) nd rfl (Or.inl rfl)) (pss_cons (ps_set (i := 4) nd rfl (Or.inr rfl) (pe_call G_choices (hr.mono (by omega)) rfl O.mchoices O.Fchoices.kp O.bchoices .nil pass0 (pa_cons (pv 0) (pa_cons (pv 3) (pa_cons (pv 1) pa_nil)))))
    (pss_one (ps_setLc2 (i := 2) (own := [("row", 5), ("choice", 6)]) (vs1 := [6]) (g := gName 5) (g1 := gName 6) (by rfl) nd rfl rfl (sw_true rfl rfl rfl (by decide +kernel)) (pi_listK (K := K) (pv 2)) (bk [("row", 5), ("choice", 6)] _ (by decide +kernel)) (by decide) (fun _ _ _ _ _ => (pg_name (i := 5) nd rfl (Or.inl rfl))) (fun _ _ _ _ _ => pts_nil) (fun _ _ _ _ _ => (pi_range1 (by rfl) O.zrange (pa_cons (pv 4) pa_nil))) (fun _ _ _ _ _ => (pg_name (i := 6) nd rfl (Or.inl rfl))) (fun _ _ _ _ _ => pts_nil) (fun _ _ _ _ _ => (pe_op (r := rCatA K) op_catA (pv 5) (pe_tup (pa_cons (pv 6) pa_nil))))))))
    (pss_one (ps_ret (pv 2))))), ?_⟩
  obtain ⟨p, c, pp, cs, ps, rfl, h1, h2, h3, h4, h5⟩ := hv.ofSnap
  have lc := h3.len
  rw [List.length_map] at lc
  refine ⟨Nat.zero_le _, fun e0 ne0 => ⟨(by show 1 ≤ sizeLine; decide), fun f0 nf0 => ?_⟩⟩
  have g1 : Chg [] [] H (upd H e0 (.tup [])) := Chg.mk0 ne0 _
  have g2 := g1.trans (Chg.mk0 nf0 (.lst [.ref e0]))
  have hf0 : H f0 = none := g1.dom _ nf0
  refine ⟨_, rfl, p, _, 0, .ref c, rfl, rfl, SqT.of (g2.tups _ _ h1), at_of (j := 0) rfl rfl, c, cs, rfl, .inr (SqT.of (g2.tups _ _ h2)), _, rfl, by omega, by omega, ?_⟩
  rw [show (((cs.length : Nat) : Int)).toNat = dur.length by omega]
  refine for_range (lo := 0) (n := dur.length) (fun i σ H' => ∃ f x3 x4, σ = [some (.ref p), some (.bl t), some (.ref f), x3, x4, none, none] ∧ H f = none ∧ LAt f H ((allL (outs t dur pend i)).map fun p => wd p.1) H')
    ⟨f0, none, none, rfl, hf0, ⟨[.ref e0], upd_same, ?_, g2⟩⟩ ?_ ?_
  · exact .cons (Ft.mkWd (ws := []) ((upd_ne (ne_of_none upd_same nf0)).trans upd_same)) .nil
  · rintro i σ H' hi ⟨f, x3, x4, rfl, nf, L⟩
    have e0i : (0 : Int) + (i : Int) = (i : Int) := Int.zero_add _
    refine ⟨_, rfl, _, rfl, _, rfl, .ref p, i, t, dur, pend, W, by rw [e0i]; rfl, hv.mono L.chg.tups, G, hi, fun H2 c2 => ?_⟩
    have L2' := L.keep c2
    obtain ⟨acc, k1, k2, k3⟩ := id L2'
    have lk := k2.len
    rw [List.length_map] at lk
    have hob := outsOf_len (t := t) (s := i) G
    have tot : (grow (allL (outs t dur pend i)) (en (outsOf t dur pend i))).length ≤ 1000000 := by
      have := outs_len_mono t dur pend (i + 1) dur.length hi
      rw [outs_snoc, allL_snoc] at this
      omega
    rw [grow_len] at tot
    refine ⟨_, rfl, f, rfl, ⟨acc, SqL.of k1⟩, fun d nd1 => ?_⟩
    have nfd : d ≠ f := fun z => by rw [z, k1] at nd1; cases nd1
    refine it_loop (n := acc.length) (fun j H3 => LAt d H2 ((gpart (allL (outs t dur pend i)) (en (outsOf t dur pend i)) j 0).map fun p => wd p.1) H3) ?_ (fun H3 L3 => ⟨⟨acc, SqL.of (L3.chg.keep _ _ k1 (by intro h; cases h)), Nat.le_refl _⟩, ?_⟩)
      (fun j H3 hj L3 => ⟨acc, acc[j], SqL.of (L3.chg.keep _ _ k1 (by intro h; cases h)), List.getElem?_eq_getElem hj⟩) ?_
    · rw [gpart_zero]; exact LAt.start nd1
    · rw [gpart_zero, lk, List.take_length, ← allL_snoc, ← outs_snoc] at L3
      obtain ⟨a3, m1, m2, m3⟩ := L3
      exact ⟨d, _, _, rfl, k3.dom _ nd1, a3, m1, m2, k3.trans m3⟩
    · intro j y H3 H4 hj L3 yl
      obtain ⟨rfl, yy⟩ := yl
      have hy := yy acc (SqL.of (L3.chg.keep _ _ k1 (by intro h; cases h)))
      have hpj : (allL (outs t dur pend i))[j]? = some ((allL (outs t dur pend i))[j]'(by omega)) := List.getElem?_eq_getElem (by omega)
      generalize (allL (outs t dur pend i))[j]'(by omega) = pj at hpj
      obtain ⟨y', hy', fy⟩ := k2.get (i := j) (d := wd pj.1) (by rw [List.getElem?_map, hpj]; rfl)
      rw [hy] at hy'
      cases hy'
      obtain ⟨ra, rfl, hra⟩ := fy.ofWd
      have hrl : pj.1.length ≤ 1000 := by
        have := (allL_row t dur pend i pj (List.mem_of_getElem? hpj)).1
        rw [this]
        unfold outs
        rw [List.length_map, List.length_range]; omega
      refine ⟨rfl, yes (iteT ?_)⟩
      refine ⟨_, rfl, _, rfl, by omega, by omega, ?_⟩
      rw [Int.toNat_natCast]
      refine it_loop (n := (outsOf t dur pend i).length) (fun k H5 => LAt d H2 ((gpart (allL (outs t dur pend i)) (en (outsOf t dur pend i)) j k).map fun p => wd p.1) H5) L3 (fun H5 L5 => ⟨Nat.le_refl _, ?_⟩) (fun k H5 hk _ => hk) ?_
      · have := gpart_full (allL (outs t dur pend i)) (en (outsOf t dur pend i)) j pj hpj
        rw [en_len] at this
        rw [gpart_zero, ← this]
        exact L5
      · intro k y H5 H6 hk L5 yl
        obtain ⟨rfl, rfl⟩ := yl
        refine ⟨rfl, yes (iteT ?_)⟩
        refine ⟨_, rfl, _, rfl, ?_⟩
        refine cat_one (ds := pj.1.map .int) (e := .int (k : Int)) (L5.chg.tups _ _ hra) .ints (by rw [Int.zero_add]; exact Ft.mkInt _) (by rw [List.length_map]; omega) fun v' H7 c7 f7 => ?_
        have hlen := gpart_len (allL (outs t dur pend i)) (en (outsOf t dur pend i)) j k (by omega) (by rw [en_len]; omega)
        have := L5.push (e := wd (pj.1 ++ [(k : Int)])) nd1 c7 (by unfold wd; rw [List.map_append]; exact f7) (by rw [List.length_map]; exact sl (by omega))
        rw [gpart_next _ _ _ _ _ _ hpj (en_get _ _ hk), List.map_append]
        exact this
  · rintro σ H' ⟨f, x3, x4, rfl, nf, L⟩
    exact ⟨_, rfl, q _ f nf L⟩
end
end S5
namespace S5
open PySem L2
section
variable {P : Program} {w : World} {K : PySem.W.Frag} {mg : Str → Option Value} {base : Heap} {D : Defs}
theorem sc_first_choices : FnScope ["snapshot", "sector", "tears", "firsts", "choice", "words"] ["snapshot", "sector", "tears"] (defScope s_first_choices) := ⟨rfl, rfl, rfl, by decide +kernel, rfl, by decide +kernel, by decide +kernel⟩
theorem ok_firsts (O : Ok P K mg D) : FnOk P w K mg base CX0 2 D.ffirst_choices D.dfirst_choices ["snapshot", "sector", "tears"] spFirsts := by
  have G_outcomes : FnOk P w K mg base CX0 1 D.foutcomes D.doutcomes ["snapshot", "sector", "tears"] spOutc := ok_outcomes O
  refine O.Ffirst_choices.ok sc_first_choices (fun vs H Q E h => ?_) (fun cdv A outer s H vs Q E hr h => ?_)
  · obtain ⟨v, s, t, dur, pend, W, rfl, _⟩ := h
    rfl
  obtain ⟨v, sec, t, dur, pend, W, rfl, hv, G, hs, q⟩ := h
  have nd := sc_first_choices.nd
  have hu := hu_of hr
  have bk : ∀ own scope, blkC ["snapshot", "sector", "tears", "firsts", "choice", "words"] (defScope s_first_choices) scope own = true → BlkOk ["snapshot", "sector", "tears", "firsts", "choice", "words"] (defScope s_first_choices) scope own := fun own scope h => blkOk_by h
  refine ⟨_, (pss_cons (ps_set (i := 3) nd rfl (Or.inl rfl) pe_dnewN)
    (pss_cons (ps_for PassesOwn.never rfl (pi_enum (by rfl) O.zenumerate (pa_cons (pe_call G_outcomes (hr.mono (by omega)) rfl O.moutcomes O.Foutcomes.kp O.boutcomes .nil pass0 (pa_cons (pv 0) (pa_cons (pv 1) (pa_cons (pv 2) pa_nil)))) pa_nil)) (pg_tup rfl (pgs_cons (pg_name (i := 4) nd rfl (Or.inl rfl)) (pgs_cons (pg_name (i := 5) nd rfl (Or.inl rfl)) pgs_nil))) (pss_one (ps_expr (pe_setdN hr.units (pv 3) (pv 5) (pv 4) ⟨rfl, rfl, rfl, rfl⟩))))
    (pss_one (ps_ret (pe_lock (pe_lc (own := [("words", 5), ("choice", 4)]) (g := gTup K 2 (gCons (gName 5) (gCons (gName 4) gNil))) (by rfl) nd (pi_itemsN (pv 3)) (bk [("words", 5), ("choice", 4)] _ (by decide +kernel)) (fun _ _ _ _ _ => (pg_tup rfl (pgs_cons (pg_name (i := 5) nd rfl (Or.inl rfl)) (pgs_cons (pg_name (i := 4) nd rfl (Or.inl rfl)) pgs_nil)))) (fun _ _ _ _ _ => pts_nil) (fun _ _ _ _ _ => (pe_tup (pa_cons (pv 4) (pa_cons (pv 5) pa_nil)))))))))), ?_⟩
  intro fd nfd
  have g1 : Chg [] [] H (upd H fd (DkN P w fd [])) := Chg.mk0 nfd _
  refine ⟨_, rfl, _, rfl, _, rfl, v, sec, t, dur, pend, W, rfl, hv.mono g1.tups, G, hs, fun H2 l nl L => ?_⟩
  generalize hout : outsOf t dur pend sec = out at *
  have hob : out.length ≤ 2000000 := by rw [← hout]; exact outsOf_len G
  obtain ⟨acc, k1, k2, k3⟩ := L
  have lk := k2.len
  rw [List.length_map] at lk
  have nlf : l ≠ fd := fun z => by rw [z, upd_same] at nl; cases nl
  have hfd2 : H2 fd = some (DkN P w fd []) := k3.keep _ _ upd_same (by intro h; cases h)
  refine ⟨l, acc, rfl, SqL.of k1, for_it walk_enum (fun i σ H' => ∃ kvs x4 x5, σ = [some v, some (.int (sec : Int)), some (.bl t), some (.ref fd), x4, x5] ∧ H' fd = some (DkN P w fd kvs) ∧ KeysAt H' kvs ∧
      kvs.map (fun p => (p.1, p.2.2)) = (dd (·.2) ((en out).take i)).map (fun q => (wd q.2, V.int q.1)) ∧ H' l = some (.lst acc) ∧ Chg [] [] H H' ∧ Tups H2 H')
    ⟨[], none, none, rfl, hfd2, (fun p hp => by cases hp), rfl, k1, g1.trans k3, fun _ _ h => h⟩ (fun i σ H' _ ⟨_, _, _, _, _, _, _, e, _⟩ => SqL.of e) ?_ ?_⟩
  · rintro i y σ H4 H5 hi ⟨kvs, x4, x5, rfl, e1, e2, e3, e4, c4, t4⟩ ⟨T, a, b, rfl, nT, rfl, ea, eb⟩
    have ea : some (V.int ((i : Nat) : Int)) = some a := ea
    cases ea
    have eb : acc[i]? = some b := eb
    have hio : i < out.length := by omega
    obtain ⟨b', eb', fb⟩ := k2.get (i := i) (d := wd out[i]) (by rw [List.getElem?_map, List.getElem?_eq_getElem hio]; rfl)
    rw [eb] at eb'
    cases eb'
    obtain ⟨oa, rfl, ha⟩ := fb.ofWd
    have gT : Chg [] [] H4 (upd H4 T (.tup [.int ((i : Nat) : Int), .ref oa])) := Chg.mk0 nT _
    have fT : Ft (upd H4 T (.tup [.int ((i : Nat) : Int), .ref oa])) (wd out[i]) (.ref oa) := (fb.mono t4).mono gT.tups
    have lkv : kvs.length ≤ 2000000 := by
      have h1 := congrArg List.length e3
      rw [List.length_map, List.length_map] at h1
      have h2 := dd_len (·.2) ((en out).take i)
      rw [List.length_take, en_len] at h2
      omega
    refine ⟨T, _, rfl, SqT.of upd_same, rfl, _, _, rfl, _, _, rfl, rfl, ?_⟩
    have e1' := gT.keep _ _ e1 (by intro h; cases h)
    have e2' := e2.mono gT.tups
    have e4' := gT.keep _ _ e4 (by intro h; cases h)
    have step : dd (·.2) ((en out).take (i + 1)) = ddS (·.2) (dd (·.2) ((en out).take i)) ((i : Int), out[i]) := by
      rw [List.take_add_one, en_get out i hio]
      exact dd_snoc _ _ _
    refine ⟨_, rfl, ⟨fd, kvs, rfl, e1'⟩, _, rfl, _, rfl, fd, oa, wd out[i], kvs, rfl, rfl, fT, Nat.le_trans (nk_depth_wd _) (by decide), e1', e2', sl (by omega), fun z hz => ?_, fun hz => ?_⟩
    · have hin : (lkN kvs (nk (wd out[i]))).isSome = true := by rw [hz]; rfl
      obtain ⟨x, hx, ex⟩ := (lkN_map e3 _).mp hin
      have : dd (·.2) ((en out).take (i + 1)) = dd (·.2) ((en out).take i) := by
        rw [step]
        unfold ddS
        rw [if_pos (List.mem_map.mpr ⟨x, hx, nk_wd_inj ex⟩)]
      exact ⟨kvs, _, _, rfl, e1', e2', by rw [this]; exact e3, e4', c4.trans gT, fun _ _ h => gT.tups _ _ (t4 _ _ h)⟩
    · have hnin : ¬ out[i] ∈ (dd (·.2) ((en out).take i)).map (·.2) := fun hm => by
        obtain ⟨x, hx, ex⟩ := List.mem_map.mp hm
        have := (lkN_map e3 (nk (wd out[i]))).mpr ⟨x, hx, by rw [show x.2 = out[i] from ex]⟩
        rw [hz] at this
        cases this
      have this : dd (·.2) ((en out).take (i + 1)) = dd (·.2) ((en out).take i) ++ [((i : Int), out[i])] := by
        rw [step]
        unfold ddS
        rw [if_neg hnin]
      have tu := tups_own (o' := DkN P w fd (kvs ++ [(wd out[i], oa, .int (i : Int))])) e1' (fun xs z => by cases z)
      refine ⟨kvs ++ [(wd out[i], oa, .int (i : Int))], _, _, rfl, upd_same, (e2'.add fT (Nat.le_trans (nk_depth_wd _) (by decide))).mono tu, ?_, ?_, ?_, fun _ _ h => tu _ _ (gT.tups _ _ (t4 _ _ h))⟩
      · rw [this, List.map_append, List.map_append, e3]; rfl
      · rw [upd_ne nlf]; exact e4'
      · exact chg_own (H5 := H) nfd (c4.trans gT) e1' fun xs z => by cases z
  · rintro σ H4 ⟨kvs, x4, x5, rfl, e1, e2, e3, e4, c4, t4⟩
    rw [List.take_of_length_le (by rw [en_len]; omega)] at e3
    have lkv : kvs.length = (firsts out).length := by
      have h1 := congrArg List.length e3
      rw [List.length_map, List.length_map] at h1
      exact h1
    have lf : (firsts out).length ≤ 2000000 := by
      have := dd_len (·.2) (en out)
      rw [en_len] at this
      unfold firsts
      omega
    refine ⟨fd, DkN P w fd kvs, e1, trivial, fun od => ?_⟩
    have tu : Tups H4 (upd H4 fd (.frz od (DkN P w fd kvs))) := tups_own e1 fun xs z => by cases z
    have hfk : upd H4 fd (.frz od (DkN P w fd kvs)) fd = some (.frz od (DkN P w fd kvs)) := upd_same
    have cK : Chg [] [] H (upd H4 fd (.frz od (DkN P w fd kvs))) := chg_own (H5 := H) nfd c4 e1 fun xs z => by cases z
    have kK := e2.mono tu
    generalize upd H4 fd (.frz od (DkN P w fd kvs)) = Hk at *
    refine ⟨_, rfl, fd, od, kvs, rfl, hfk, fun d nd1 => ?_⟩
    refine it_loop (n := kvs.length) (fun i H5 => LAt d Hk (((firsts out).take i).map ch) H5) (LAt.start nd1) (fun H5 L5 => ⟨⟨L5.chg.keep _ _ hfk (by intro h; cases h), kK.mono L5.chg.tups, Nat.le_refl _⟩, ?_⟩)
      (fun i H5 hi L5 => ⟨L5.chg.keep _ _ hfk (by intro h; cases h), kK.mono L5.chg.tups, hi⟩) ?_
    · rw [lkv, List.take_length] at L5
      obtain ⟨a5, m1, m2, m3⟩ := L5
      have hf5 := m3.keep _ _ hfk (by intro h; cases h)
      have ndf : d ≠ fd := fun z => by rw [z, hfk] at nd1; cases nd1
      refine ⟨hf5, q _ d (cK.dom _ nd1) ⟨a5, (upd_ne ndf).trans m1, m2.mono (tups_own hf5 fun xs z => by cases z), chg_own (H5 := H) nfd (cK.trans m3) hf5 fun xs z => by cases z⟩⟩
    · rintro i y H5 H6 hi L5 ⟨T, p, hp, rfl, nT, rfl⟩
      have hif : i < (firsts out).length := by omega
      have hrow : (p.1, p.2.2) = (wd (firsts out)[i].2, V.int (firsts out)[i].1) := by
        have h1 := congrArg (fun l => l[i]?) e3
        simp only [List.getElem?_map] at h1
        rw [hp] at h1
        have h2 : (dd (·.2) (en out))[i]? = some (firsts out)[i] := List.getElem?_eq_getElem hif
        rw [h2] at h1
        exact Option.some.inj h1
      have e1 : p.1 = wd (firsts out)[i].2 := congrArg Prod.fst hrow
      have e2' : p.2.2 = V.int (firsts out)[i].1 := congrArg Prod.snd hrow
      have fk := (kK.mono L5.chg.tups p (List.mem_of_getElem? hp)).1
      rw [e1] at fk
      have gT : Chg [] [] H5 (upd H5 T (.tup [.ref p.2.1, p.2.2])) := Chg.mk0 nT _
      refine ⟨T, _, rfl, SqT.of upd_same, rfl, _, _, rfl, _, _, rfl, rfl, rfl, yes (iteT ?_)⟩
      refine ⟨_, rfl, _, rfl, (by show 2 ≤ sizeLine; decide), fun u nu => ?_⟩
      have g2 := gT.trans (Chg.mk0 nu (.tup [p.2.2, .ref p.2.1]))
      have := L5.push (e := ch (firsts out)[i]) nd1 g2 (Ft.mkTup upd_same (.cons (by rw [e2']; exact Ft.mkInt _) (.cons (fk.mono g2.tups) .nil))) (by rw [List.length_map, List.length_take]; exact sl (by omega))
      rw [List.take_add_one, List.getElem?_eq_getElem hif, List.map_append]
      exact this
theorem firstsL_len_mono (t : Bool) (dur : List Ws) (pend : List (Int × Ws)) (n : Nat) : (firstsL (outs t dur pend n)).length ≤ (allL (outs t dur pend n)).length := by
  rw [← firsts_all]; exact dd_len _ _
theorem Ft.ofPr {H : Hp} {p : RC} {v : V} (h : Ft H (pr p) v) : ∃ q a b cs, v = .ref q ∧ H q = some (.tup [.ref a, .ref b]) ∧ H a = some (.tup (p.1.map V.int)) ∧ H b = some (.tup cs) ∧ FtAll H (p.2.map wd) cs := by
  obtain ⟨q, x, y, rfl, h1, fx, fy⟩ := Ft.two h
  obtain ⟨a, rfl, ha⟩ := fx.ofWd
  obtain ⟨b, cs, rfl, hb, fb⟩ := Ft.tup fy
  exact ⟨q, a, b, cs, rfl, h1, ha, hb, fb⟩
theorem sc_distinct : FnScope ["snapshot", "tears", "found", "sector", "firsts", "row", "left", "choice", "words"] ["snapshot", "tears"] (defScope s_distinct) := ⟨rfl, rfl, rfl, by decide +kernel, rfl, by decide +kernel, by decide +kernel⟩
theorem ok_distinct (O : Ok P K mg D) : FnOk P w K mg base CX0 3 D.fdistinct D.ddistinct ["snapshot", "tears"] spDistinct := by
  have G_first_choices : FnOk P w K mg base CX0 2 D.ffirst_choices D.dfirst_choices ["snapshot", "sector", "tears"] spFirsts := ok_firsts O
  refine O.Fdistinct.ok sc_distinct (fun vs H Q E h => ?_) (fun cdv A outer s H vs Q E hr h => ?_)
  · obtain ⟨v, t, dur, pend, W, rfl, _⟩ := h
    rfl
  obtain ⟨v, t, dur, pend, W, rfl, hv, G, hd, hbig, q⟩ := h
  have nd := sc_distinct.nd
  have hu := hu_of hr
  have bk : ∀ own scope, blkC ["snapshot", "tears", "found", "sector", "firsts", "row", "left", "choice", "words"] (defScope s_distinct) scope own = true → BlkOk ["snapshot", "tears", "found", "sector", "firsts", "row", "left", "choice", "words"] (defScope s_distinct) scope own := fun own scope h => blkOk_by h
  refine ⟨_, (pss_cons (ps_set (i := 2) nd rfl (Or.inl rfl) (pe_lst (pa_cons (pe_tup (pa_cons (pe_tup pa_nil) (pa_cons (pe_tup pa_nil) pa_nil))) pa_nil)))
    (pss_cons (ps_for PassesOwn.never rfl (pi_range1 (by rfl) O.zrange (pa_cons (pe_callB (r := rLenQ K) call_lenK (by rfl) O.zlen PySem.boot_len (pa_cons (pe_ix (r := rIxT K) ix_tup (pv 0) pe_int (fun _ _ => rfl)) pa_nil)) pa_nil)) (pg_name (i := 3) nd rfl (Or.inl rfl)) (pss_cons (ps_set (i := 4) nd rfl (Or.inr rfl) (pe_call G_first_choices (hr.mono (by omega)) rfl O.mfirst_choices O.Ffirst_choices.kp O.bfirst_choices .nil pass0 (pa_cons (pv 0) (pa_cons (pv 3) (pa_cons (pv 1) pa_nil)))))
    (pss_one (ps_setLc2 (i := 2) (own := [("row", 5), ("left", 6), ("choice", 7), ("words", 8)]) (vs1 := [7, 8]) (g := gTup K 2 (gCons (gName 5) (gCons (gName 6) gNil))) (g1 := gTup K 2 (gCons (gName 7) (gCons (gName 8) gNil))) (by rfl) nd rfl rfl (sw_true rfl rfl rfl (by decide +kernel)) (pi_listK (K := K) (pv 2)) (bk [("row", 5), ("left", 6), ("choice", 7), ("words", 8)] _ (by decide +kernel)) (by decide) (fun _ _ _ _ _ => (pg_tup rfl (pgs_cons (pg_name (i := 5) nd rfl (Or.inl rfl)) (pgs_cons (pg_name (i := 6) nd rfl (Or.inl rfl)) pgs_nil)))) (fun _ _ _ _ _ => pts_nil) (fun _ _ _ _ _ => (pi_listK (K := K) (pv 4))) (fun _ _ _ _ _ => (pg_tup rfl (pgs_cons (pg_name (i := 7) nd rfl (Or.inl rfl)) (pgs_cons (pg_name (i := 8) nd rfl (Or.inl rfl)) pgs_nil)))) (fun _ _ _ _ _ => pts_nil) (fun _ _ _ _ _ => (pe_tup (pa_cons (pe_op (r := rCatA K) op_catA (pv 5) (pe_tup (pa_cons (pv 7) pa_nil))) (pa_cons (pe_op (r := rCatA K) op_catA (pv 6) (pe_tup (pa_cons (pv 8) pa_nil))) pa_nil))))))))
    (pss_one (ps_ret (pv 2))))), ?_⟩
  obtain ⟨p, c, pp, cs, ps, rfl, h1, h2, h3, h4, h5⟩ := hv.ofSnap
  have lc := h3.len
  rw [List.length_map] at lc
  refine ⟨Nat.zero_le _, fun e0 ne0 => ⟨Nat.zero_le _, fun e1 ne1 => ⟨(by show 2 ≤ sizeLine; decide), fun e2 ne2 => ⟨(by show 1 ≤ sizeLine; decide), fun f0 nf0 => ?_⟩⟩⟩⟩
  have g0 : Chg [] [] H (upd H e0 (.tup [])) := Chg.mk0 ne0 _
  have g1 := g0.trans (Chg.mk0 ne1 (.tup []))
  have g2 := g1.trans (Chg.mk0 ne2 (.tup [.ref e0, .ref e1]))
  have g3 := g2.trans (Chg.mk0 nf0 (.lst [.ref e2]))
  have hf0 : H f0 = none := g2.dom _ nf0
  have hp0 : Ft (upd (upd (upd (upd H e0 (.tup [])) e1 (.tup [])) e2 (.tup [.ref e0, .ref e1])) f0 (.lst [.ref e2])) (pr ([], [])) (.ref e2) := by
    have k0 : upd (upd (upd H e0 (.tup [])) e1 (.tup [])) e2 (.tup [.ref e0, .ref e1]) e0 = some (.tup []) := (Chg.trans (fp := []) (Chg.mk0 (fp := []) ne1 (.tup [])) (Chg.mk0 ne2 (.tup [.ref e0, .ref e1]))).tups _ _ upd_same
    have k1 : upd (upd (upd H e0 (.tup [])) e1 (.tup [])) e2 (.tup [.ref e0, .ref e1]) e1 = some (.tup []) := (Chg.mk0 (fp := []) ne2 (.tup [.ref e0, .ref e1])).tups _ _ upd_same
    exact (Ft.mkTup upd_same (.cons (Ft.mkWd (ws := []) k0) (.cons (Ft.mkTup (ds := []) k1 .nil) .nil))).mono (Chg.mk0 (fp := []) nf0 (.lst [.ref e2])).tups
  refine ⟨_, rfl, p, _, 0, .ref c, rfl, rfl, SqT.of (g3.tups _ _ h1), at_of (j := 0) rfl rfl, c, cs, rfl, .inr (SqT.of (g3.tups _ _ h2)), _, rfl, by omega, by omega, ?_⟩
  rw [show (((cs.length : Nat) : Int)).toNat = dur.length by omega]
  refine for_range (lo := 0) (n := dur.length) (fun i σ H' => ∃ f x3 x4, σ = [some (.ref p), some (.bl t), some (.ref f), x3, x4, none, none, none, none] ∧ H f = none ∧ LAt f H ((firstsL (outs t dur pend i)).map pr) H')
    ⟨f0, none, none, rfl, hf0, ⟨[.ref e2], upd_same, .cons hp0 .nil, g3⟩⟩ ?_ ?_
  · rintro i σ H' hi ⟨f, x3, x4, rfl, nf, L⟩
    have e0i : (0 : Int) + (i : Int) = (i : Int) := Int.zero_add _
    refine ⟨_, rfl, _, rfl, _, rfl, .ref p, i, t, dur, pend, W, by rw [e0i]; rfl, hv.mono L.chg.tups, G, hi, fun H2 fl nfl LF => ?_⟩
    have L2' := L.keep LF.chg
    obtain ⟨acc, k1, k2, k3⟩ := id L2'
    obtain ⟨bcc, b1, b2, b3⟩ := id LF
    have lk := k2.len
    rw [List.length_map] at lk
    have lb := b2.len
    rw [List.length_map] at lb
    have tot : (grow (firstsL (outs t dur pend i)) (firsts (outsOf t dur pend i))).length ≤ 1000000 := by
      have h1 := outs_len_mono t dur pend (i + 1) dur.length hi
      have h2 := firstsL_len_mono t dur pend (i + 1)
      have e : firstsL (outs t dur pend (i + 1)) = grow (firstsL (outs t dur pend i)) (firsts (outsOf t dur pend i)) := by rw [outs_snoc, firstsL_snoc]
      rw [e] at h2
      omega
    rw [grow_len] at tot
    refine ⟨_, rfl, f, rfl, ⟨acc, SqL.of k1⟩, fun d nd1 => ?_⟩
    refine it_loop (n := acc.length) (fun j H3 => LAt d H2 ((gpart (firstsL (outs t dur pend i)) (firsts (outsOf t dur pend i)) j 0).map pr) H3) ?_ (fun H3 L3 => ⟨⟨acc, SqL.of (L3.chg.keep _ _ k1 (by intro h; cases h)), Nat.le_refl _⟩, ?_⟩)
      (fun j H3 hj L3 => ⟨acc, acc[j], SqL.of (L3.chg.keep _ _ k1 (by intro h; cases h)), List.getElem?_eq_getElem hj⟩) ?_
    · rw [gpart_zero]; exact LAt.start nd1
    · rw [gpart_zero, lk, List.take_length, ← firstsL_snoc, ← outs_snoc] at L3
      obtain ⟨a3, m1, m2, m3⟩ := L3
      exact ⟨d, _, _, rfl, k3.dom _ nd1, a3, m1, m2, k3.trans m3⟩
    · intro j y H3 H4 hj L3 yl
      obtain ⟨rfl, yy⟩ := yl
      have hy := yy acc (SqL.of (L3.chg.keep _ _ k1 (by intro h; cases h)))
      have hpj : (firstsL (outs t dur pend i))[j]? = some ((firstsL (outs t dur pend i))[j]'(by omega)) := List.getElem?_eq_getElem (by omega)
      generalize (firstsL (outs t dur pend i))[j]'(by omega) = pj at hpj
      obtain ⟨y', hy', fy⟩ := k2.get (i := j) (d := pr pj) (by rw [List.getElem?_map, hpj]; rfl)
      rw [hy] at hy'
      cases hy'
      obtain ⟨qa, ra, rb, cs', rfl, hq1, hra, hrb, frb⟩ := fy.ofPr
      have hrow : RowOf (outs t dur pend i) pj := by
        refine allL_row t dur pend i pj ?_
        have := List.mem_of_getElem? hpj
        rw [← firsts_all] at this
        exact dd_mem _ _ _ this
      have hlo : (outs t dur pend i).length = i := by unfold outs; rw [List.length_map, List.length_range]
      have hrl : pj.1.length ≤ 1000 := by rw [hrow.1, hlo]; omega
      have hrl2 : pj.2.length ≤ 1000 := by
        rw [hrow.2.1]
        unfold imgOf
        rw [List.length_zipWith, hlo]; omega
      refine ⟨qa, _, rfl, SqT.of (L3.chg.tups _ _ hq1), rfl, _, _, rfl, _, _, rfl, rfl, rfl, yes (iteT ?_)⟩
      refine ⟨_, rfl, fl, rfl, ⟨bcc, SqL.of (L3.chg.keep _ _ b1 (by intro h; cases h))⟩, ?_⟩
      refine it_loop (n := bcc.length) (fun k H5 => LAt d H2 ((gpart (firstsL (outs t dur pend i)) (firsts (outsOf t dur pend i)) j k).map pr) H5) L3 (fun H5 L5 => ⟨⟨bcc, SqL.of (L5.chg.keep _ _ b1 (by intro h; cases h)), Nat.le_refl _⟩, ?_⟩)
        (fun k H5 hk L5 => ⟨bcc, bcc[k], SqL.of (L5.chg.keep _ _ b1 (by intro h; cases h)), List.getElem?_eq_getElem hk⟩) ?_
      · have := gpart_full (firstsL (outs t dur pend i)) (firsts (outsOf t dur pend i)) j pj hpj
        rw [gpart_zero, ← this, ← lb]
        exact L5
      · intro k y H5 H6 hk L5 yl
        obtain ⟨rfl, yy⟩ := yl
        have hy := yy bcc (SqL.of (L5.chg.keep _ _ b1 (by intro h; cases h)))
        have hqk : (firsts (outsOf t dur pend i))[k]? = some ((firsts (outsOf t dur pend i))[k]'(by omega)) := List.getElem?_eq_getElem (by omega)
        generalize (firsts (outsOf t dur pend i))[k]'(by omega) = qk at hqk
        obtain ⟨y', hy', fy'⟩ := b2.get (i := k) (d := ch qk) (by rw [List.getElem?_map, hqk]; rfl)
        rw [hy] at hy'
        cases hy'
        obtain ⟨qb, xc, xw, rfl, hqb, fxc, fxw⟩ := Ft.two fy'
        have exc := fxc.int
        subst exc
        refine ⟨qb, _, rfl, SqT.of (L5.chg.tups _ _ hqb), rfl, _, _, rfl, _, _, rfl, rfl, rfl, yes (iteT ?_)⟩
        refine ⟨_, rfl, _, rfl, ?_⟩
        refine cat_one (ds := pj.1.map .int) (e := .int qk.1) (L5.chg.tups _ _ hra) .ints (Ft.mkInt _) (by rw [List.length_map]; omega) fun v1 H7 c7 f7 => ?_
        refine ⟨_, rfl, _, rfl, ?_⟩
        have lcs := frb.len
        rw [List.length_map] at lcs
        refine cat_one (ds := pj.2.map wd) (e := wd qk.2) ((L5.chg.trans c7).tups _ _ hrb) (frb.mono (L5.chg.trans c7).tups) (fxw.mono (L5.chg.trans c7).tups) (by omega) fun v2 H8 c8 f8 => ?_
        refine ⟨(by show 2 ≤ sizeLine; decide), fun u nu => ?_⟩
        have c9 := (c7.trans c8).trans (Chg.mk0 nu (.tup [v1, v2]))
        have hlen := gpart_len (firstsL (outs t dur pend i)) (firsts (outsOf t dur pend i)) j k (by omega) (by omega)
        have t9 := (Chg.mk0 (fp := []) nu (.tup [v1, v2])).tups
        have := L5.push (e := pr (ext pj qk)) nd1 c9 (Ft.mkTup upd_same (.cons (by show Ft _ (wd (pj.1 ++ [qk.1])) _; unfold wd; rw [List.map_append]; exact (f7.mono c8.tups).mono t9) (.cons (by show Ft _ (ct (pj.2 ++ [qk.2])) _; unfold ct; rw [List.map_append]; exact f8.mono t9) .nil))) (by rw [List.length_map]; exact sl (by omega))
        rw [gpart_next _ _ _ _ _ _ hpj hqk, List.map_append]
        exact this
  · rintro σ H' ⟨f, x3, x4, rfl, nf, L⟩
    exact ⟨_, rfl, q _ f nf L⟩
end
end S5
namespace S5
open PySem L2
def lastW : Ws → List Ws → Ws
  | w0, [] => w0
  | _, v :: vs => lastW v vs
theorem lefts_snoc (t : Bool) : ∀ (ws : List Ws) (w0 w : Ws), lefts t w0 (ws ++ [w]) = lefts t w0 ws ++ ((if t = true then mixes (lastW w0 ws) w else []) ++ [w])
  | [], w0, w => by simp [lefts, lastW]
  | v :: vs, w0, w => by
    rw [List.cons_append, lefts, lefts, lefts_snoc t vs v w, lastW]
    simp
theorem lefts_last (t : Bool) : ∀ (ws : List Ws) (w0 : Ws), (lefts t w0 ws)[(lefts t w0 ws).length - 1]? = some (lastW w0 ws)
  | [], w0 => rfl
  | v :: vs, w0 => by
    have ih := lefts_last t vs v
    have hne : 1 ≤ (lefts t v vs).length := List.length_pos_iff.mpr (lefts_ne t v vs)
    rw [lefts, lastW, ← List.cons_append, List.length_append, List.getElem?_append_right (by omega)]
    rw [show (w0 :: (if t = true then mixes w0 v else [])).length + (lefts t v vs).length - 1 - (w0 :: (if t = true then mixes w0 v else [])).length = (lefts t v vs).length - 1 by omega]
    exact ih
theorem lastW_len {W : Nat} : ∀ (ws : List Ws) (w0 : Ws), w0.length = W → (∀ w ∈ ws, w.length = W) → (lastW w0 ws).length = W
  | [], _, h, _ => h
  | v :: vs, _, _, h => lastW_len vs v (h v (List.mem_cons_self ..)) fun x hx => h x (List.mem_cons_of_mem _ hx)
/-- t[:k] + u[k:], 1 ≤ k < W -/
theorem cat_cut {K : PySem.W.Frag} {H : Hp} {a b : Addr} {x y : Ws} {k W : Nat} {ki : Int} {Q : VK} {Z : V → Hp → Prop} (hZ : ∀ u H1, (rSlA K (.ref b) (some ki) none H1 fun v H2 => rCatA K u v H2 Q) → Z u H1) (hx : x.length = W) (hy : y.length = W) (hk : 1 ≤ k) (hk2 : k < W) (hW : W ≤ 1000) (hki : ki = (k : Int)) (ha : H a = some (.tup (x.map V.int))) (hb : H b = some (.tup (y.map V.int)))
    (q : ∀ v H', Chg [] [] H H' → Ft H' (wd (x.take k ++ y.drop k)) v → Q v H') :
    rSlA K (.ref a) none (some ki) H Z := by
  subst hki
  refine ⟨a, _, rfl, SqT.of ha, fun z => ?_, fun _ t1 nt1 => hZ _ _ ?_⟩
  · exfalso
    have := z.2
    rw [HT.sIx_nat, List.length_map] at this
    omega
  have g1 : Chg [] [] H (upd H t1 (.tup (cutV (x.map V.int) none (some (k : Int))))) := Chg.mk0 nt1 _
  have hb1 := g1.tups _ _ hb
  have h1 : upd H t1 (.tup (cutV (x.map V.int) none (some (k : Int)))) t1 = some (.tup ((x.take k).map V.int)) := by
    rw [upd_same, cutV_take _ _ (by rw [List.length_map]; omega), List.map_take]
  generalize upd H t1 (.tup (cutV (x.map V.int) none (some (k : Int)))) = H1 at *
  refine ⟨b, _, rfl, SqT.of hb1, fun z => ?_, fun _ t2 nt2 => ?_⟩
  · exfalso
    have := z.1
    rw [HT.sIx_nat, List.length_map] at this
    omega
  have g2 : Chg [] [] H1 (upd H1 t2 (.tup (cutV (y.map V.int) (some (k : Int)) none))) := Chg.mk0 nt2 _
  have h2 := g2.tups _ _ h1
  have h3 : upd H1 t2 (.tup (cutV (y.map V.int) (some (k : Int)) none)) t2 = some (.tup ((y.drop k).map V.int)) := by
    rw [upd_same, cutV_drop, List.map_drop]
  generalize upd H1 t2 (.tup (cutV (y.map V.int) (some (k : Int)) none)) = H2 at *
  refine ⟨t1, t2, _, _, rfl, rfl, SqT.of h2, SqT.of h3, Nat.le_of_lt (sl (by rw [List.length_map, List.length_map, List.length_take, List.length_drop]; omega)), fun z => ?_, fun _ z => ?_, fun _ _ p np => ?_⟩
  · exfalso
    have := congrArg List.length z
    rw [List.length_map, List.length_take, List.length_nil] at this
    omega
  · exfalso
    have := congrArg List.length z
    rw [List.length_map, List.length_drop, List.length_nil] at this
    omega
  · refine q _ _ ((g1.trans g2).trans (Chg.mk0 np _)) (Ft.mkWd ?_)
    rw [← List.map_append]
    exact upd_same
def spAll : Sp := fun vs H Q _ => ∃ (v : V) (t : Bool) (dur : List Ws) (pend : List (Int × Ws)) (W : Nat), vs = [v, .bl t] ∧ Ft H (snap dur pend) v ∧ Good W dur pend ∧ dur.length ≤ 1000 ∧ (allL (outs t dur pend dur.length)).length ≤ 1000000 ∧
  ∀ H' l, H l = none → LAt l H ((allL (outs t dur pend dur.length)).map pr) H' → Q (.ref l) H'
section
variable {P : Program} {w : World} {K : PySem.W.Frag} {mg : Str → Option Value} {base : Heap} {D : Defs}
theorem sc__law_left : FnScope ["snapshot", "sector", "tears", "left", "at", "words", "before", "k"] ["snapshot", "sector", "tears"] (defScope s__law_left) := ⟨rfl, rfl, rfl, by decide +kernel, rfl, by decide +kernel, by decide +kernel⟩
theorem ok_left (O : Ok P K mg D) : FnOk P w K mg base CX0 1 D.f_law_left D.d_law_left ["snapshot", "sector", "tears"] spOutc := by
  refine O.F_law_left.ok sc__law_left (fun vs H Q E h => ?_) (fun cdv A outer s H vs Q E hr h => ?_)
  · obtain ⟨v, s, t, dur, pend, W, rfl, _⟩ := h
    rfl
  obtain ⟨v, sec, t, dur, pend, W, rfl, hv, G, hs, q⟩ := h
  have nd := sc__law_left.nd
  have hu := hu_of hr
  have bk : ∀ own scope, blkC ["snapshot", "sector", "tears", "left", "at", "words", "before", "k"] (defScope s__law_left) scope own = true → BlkOk ["snapshot", "sector", "tears", "left", "at", "words", "before", "k"] (defScope s__law_left) scope own := fun own scope h => blkOk_by h
  refine ⟨_, (pss_cons (ps_set (i := 3) nd rfl (Or.inl rfl) (pe_lst (pa_cons (pe_ix (r := rIxT K) ix_tup (pe_ix (r := rIxT K) ix_tup (pv 0) pe_int (fun _ _ => rfl)) (pv 1) (fun _ _ => rfl)) pa_nil)))
    (pss_cons (ps_for PassesOwn.never rfl (pi_tupK (K := K) (pe_ix (r := rIxT K) ix_tup (pv 0) pe_int (fun _ _ => rfl))) (pg_tup rfl (pgs_cons (pg_name (i := 4) nd rfl (Or.inl rfl)) (pgs_cons (pg_name (i := 5) nd rfl (Or.inl rfl)) pgs_nil))) (pss_one (ps_if (pt_cmpR op_eq (pv 4) (pv 1) (nomark _)) (pss_cons (ps_set (i := 6) nd rfl (Or.inl rfl) (pe_ix (r := rIxL K) ix_list (pv 3) (pe_op op_sub (pe_callB (r := rLenQ K) call_lenK (by rfl) O.zlen PySem.boot_len (pa_cons (pv 3) pa_nil)) pe_int) (fun _ _ => rfl)))
    (C8.pss_cut (ps_if (pt_val (pv 2)) (pss_one (ps_for PassesOwn.never rfl (pi_range2 (by rfl) O.zrange (pa_cons pe_int (pa_cons (pe_callB (r := rLenQ K) call_lenK (by rfl) O.zlen PySem.boot_len (pa_cons (pv 5) pa_nil)) pa_nil))) (pg_name (i := 7) nd rfl (Or.inl rfl)) (pss_one (ps_expr (pe_bm PySem.F.plainAttrs_list PySem.F.slot_list_append PySem.F.type_list_append mt_append (pv 3) (pa_cons (pe_op (r := rCatA K) op_catA (pe_slice (r := rSlA K) sl_tupA (pv 5) po_none (po_some (pv 7))) (pe_slice (r := rSlA K) sl_tupA (pv 6) (po_some (pv 7)) po_none)) pa_nil)))))) pss_nil)
    (pss_one (ps_expr (pe_bm PySem.F.plainAttrs_list PySem.F.slot_list_append PySem.F.type_list_append mt_append (pv 3) (pa_cons (pv 5) pa_nil)))))) pss_nil)))
    (pss_one (ps_ret (pv 3))))), ?_⟩
  obtain ⟨p, c, pp, cs, ps, rfl, h1, h2, h3, h4, h5⟩ := hv.ofSnap
  obtain ⟨x, hx, fx⟩ := h3.get (i := sec) (d := wd (dur.getD sec [])) (by rw [List.getElem?_map, List.getElem?_eq_getElem hs, List.getD_eq_getElem?_getD, List.getElem?_eq_getElem hs]; rfl)
  generalize hw0 : dur.getD sec [] = w0 at *
  have hW0 : w0.length = W := by
    rw [← hw0, List.getD_eq_getElem?_getD, List.getElem?_eq_getElem hs]
    exact G.gdur _ (List.getElem_mem hs)
  have few := G.few
  have w2 := G.w2
  refine ⟨_, rfl, p, _, 0, .ref c, rfl, rfl, SqT.of h1, at_of (j := 0) rfl rfl, _, rfl, c, cs, (sec : Int), x, rfl, rfl, SqT.of h2, at_of (j := sec) (by omega) hx, (by show 1 ≤ sizeLine; decide), fun l nl => ?_⟩
  have g1 : Chg [] [] H (upd H l (.lst [x])) := Chg.mk0 nl _
  have L1 : LAt l H ((lefts t w0 (sel (sec : Int) (pend.take 0))).map wd) (upd H l (.lst [x])) := ⟨[x], upd_same, .cons (fx.mono g1.tups) .nil, g1⟩
  have lp := h5.len
  rw [List.length_map] at lp
  have bnd : ∀ i, (lefts t w0 (sel (sec : Int) (pend.take i))).length ≤ 2000000 := fun i => by
    have h := lefts_len (W := W) t (sel (sec : Int) (pend.take i)) w0 (sel_mem fun p hp => G.gpend p (List.mem_of_mem_take hp))
    have h2 := sel_len (sec : Int) (pend.take i)
    rw [List.length_take] at h2
    have h5 : (sel (sec : Int) (pend.take i)).length * (W + 1) ≤ 1000 * 1001 := Nat.mul_le_mul (by omega) (by omega)
    omega
  refine ⟨_, rfl, p, _, 1, .ref pp, rfl, rfl, SqT.of (g1.tups _ _ h1), at_of (j := 1) rfl rfl, pp, rfl, ⟨ps, SqT.of (g1.tups _ _ h4)⟩, ?_⟩
  refine for_tup (K := K) (a := pp) (xs := ps) (fun i σ H' => ∃ x4 x5 x6 x7, σ = [some (.ref p), some (.int (sec : Int)), some (.bl t), some (.ref l), x4, x5, x6, x7] ∧ LAt l H ((lefts t w0 (sel (sec : Int) (pend.take i))).map wd) H')
    ⟨none, none, none, none, rfl, L1⟩ (fun i σ H' _ ⟨_, _, _, _, _, L⟩ => SqT.of (L.chg.tups _ _ h4)) ?_ ?_
  · rintro i y σ H' hi ⟨x4, x5, x6, x7, rfl, L⟩
    have hip : i < pend.length := by
      have := (List.getElem?_eq_some_iff.mp hi).1
      omega
    have hpi : pend[i]? = some pend[i] := List.getElem?_eq_getElem hip
    obtain ⟨y2, e2, fy⟩ := h5.get (i := i) (d := pw pend[i]) (by rw [List.getElem?_map, hpi]; rfl)
    rw [hi] at e2
    cases e2
    obtain ⟨qq, wv, rfl, k1, k2⟩ := fy.ofPw
    obtain ⟨ow, rfl, hw⟩ := k2.ofWd
    have lw : pend[i].2.length = W := G.gpend _ (List.getElem_mem hip)
    refine ⟨qq, _, rfl, SqT.of (L.chg.tups _ _ k1), rfl, _, _, rfl, _, _, rfl, rfl, ?_⟩
    refine ⟨_, rfl, _, rfl, rfl, _, rfl, ite2 (fun z => ?_) (fun z => ?_)⟩
    · have e : pend[i].1 = (sec : Int) := by simpa using z
      have est : sel (sec : Int) (pend.take (i + 1)) = sel (sec : Int) (pend.take i) ++ [pend[i].2] := by rw [sel_step _ _ _ _ hpi, if_pos e]
      have hsm : ∀ w ∈ sel (sec : Int) (pend.take i), w.length = W := sel_mem fun p hp => G.gpend p (List.mem_of_mem_take hp)
      generalize hws : sel (sec : Int) (pend.take i) = ws at *
      have bi := bnd i
      have bi1 := bnd (i + 1)
      rw [est] at bi1 ⊢
      rw [hws] at bi
      have lst := lastW_len ws w0 hW0 hsm
      obtain ⟨acc, m1, m2, m3⟩ := id L
      have lm := m2.len
      rw [List.length_map] at lm
      have hne : 1 ≤ (lefts t w0 ws).length := List.length_pos_iff.mpr (lefts_ne t w0 ws)
      obtain ⟨b, hb, fb⟩ := m2.get (i := (lefts t w0 ws).length - 1) (d := wd (lastW w0 ws)) (by rw [List.getElem?_map, lefts_last]; rfl)
      obtain ⟨ob, rfl, hob⟩ := fb.ofWd
      refine ⟨_, rfl, _, rfl, l, acc, rfl, .inl (SqL.of m1), _, _, rfl, rfl, l, acc, _, _, rfl, rfl, SqL.of m1, at_of (j := (lefts t w0 ws).length - 1) (by rw [lm]; omega) hb, ?_⟩
      have hob' := L.chg
      rw [lefts_snoc] at bi1 ⊢
      -- the torn ones
      rw [List.length_append, List.length_append] at bi1
      refine ⟨fun σ H3 => ∃ x7, σ = [some (.ref p), some (.int (sec : Int)), some (.bl t), some (.ref l), some (.int pend[i].1), some (.ref ow), some (.ref ob), x7] ∧ LAt l H ((lefts t w0 ws ++ (if t = true then mixes (lastW w0 ws) pend[i].2 else [])).map wd) H3, ?_, ?_⟩
      · refine ⟨_, rfl, t, rfl, ite2 (fun zt => ?_) (fun zt => ?_)⟩
        · rw [if_pos zt] at bi1 ⊢
          refine ⟨_, rfl, ow, _, rfl, .inr (SqT.of (hob'.tups _ _ hw)), 1, _, rfl, ⟨by decide, by decide, by rw [List.length_map]; omega, by rw [List.length_map]; omega⟩, ?_⟩
          rw [show ((((pend[i].2.map V.int).length : Nat) : Int) - 1).toNat = pend[i].2.length - 1 by rw [List.length_map]; omega]
          refine for_range (lo := 1) (n := pend[i].2.length - 1) (fun k σ H3 => ∃ x7, σ = [some (.ref p), some (.int (sec : Int)), some (.bl t), some (.ref l), some (.int pend[i].1), some (.ref ow), some (.ref ob), x7] ∧
            LAt l H ((lefts t w0 ws ++ (List.range k).map fun k => pend[i].2.take (k + 1) ++ (lastW w0 ws).drop (k + 1)).map wd) H3 ∧ Tups H' H3) ⟨x7, rfl, by simpa using L, fun _ _ h => h⟩ ?_ ?_
          · rintro k σ H3 hk ⟨x7, rfl, L3, t3⟩
            obtain ⟨a3, n1, n2, n3⟩ := id L3
            refine ⟨_, rfl, .inl ⟨rfl, _, SqL.of n1⟩, _, rfl, _, rfl, _, rfl, ?_⟩
            refine cat_cut (W := W) (k := k + 1) (b := ob) (y := lastW w0 ws) (x := pend[i].2) (fun u H1 z => ⟨_, rfl, _, rfl, _, rfl, z⟩) lw lst (by omega) (by omega) w2 (by omega) (n3.tups _ _ hw) (t3 _ _ hob) fun v H4 c4 f4 => ?_
            obtain ⟨a4, p1, p2, p3⟩ := L3.push (e := wd (pend[i].2.take (k + 1) ++ (lastW w0 ws).drop (k + 1))) nl c4 f4 (by rw [List.length_map, List.length_append, List.length_map, List.length_range]; exact sl (by omega))
            refine ⟨l, a4, _, rfl, rfl, p1, p2, _, rfl, ?_, fun _ _ h => tups_own p1 (fun xs z => by cases z) _ _ (c4.tups _ _ (t3 _ _ h))⟩
            rw [show (List.range (k + 1)).map (fun k => pend[i].2.take (k + 1) ++ (lastW w0 ws).drop (k + 1)) = (List.range k).map (fun k => pend[i].2.take (k + 1) ++ (lastW w0 ws).drop (k + 1)) ++ [pend[i].2.take (k + 1) ++ (lastW w0 ws).drop (k + 1)] by rw [List.range_succ, List.map_append]; rfl, ← List.append_assoc, List.map_append]
            exact p3
          · rintro σ H3 ⟨x7, rfl, L3, t3⟩
            exact ⟨x7, rfl, L3⟩
        · rw [if_neg zt, List.append_nil]
          exact ⟨x7, rfl, L⟩
      · rintro σ H3 ⟨x7, rfl, L3⟩
        obtain ⟨a3, n1, n2, n3⟩ := id L3
        refine ⟨_, rfl, .inl ⟨rfl, _, SqL.of n1⟩, _, rfl, ?_⟩
        obtain ⟨a4, p1, p2, p3⟩ := L3.push (e := wd pend[i].2) (y := .ref ow) nl (Chg.refl _ _) (k2.mono n3.tups) (by rw [List.length_map, List.length_append]; exact sl (by omega))
        refine ⟨l, a4, _, rfl, rfl, p1, p2, _, _, _, _, rfl, ?_⟩
        rw [← List.append_assoc, List.map_append]
        exact p3
    · have e : ¬ pend[i].1 = (sec : Int) := by simpa using z
      refine ⟨_, _, _, _, rfl, ?_⟩
      rw [sel_step _ _ _ _ hpi, if_neg e, List.append_nil]
      exact L
  · rintro σ H' ⟨x4, x5, x6, x7, rfl, L⟩
    rw [lp, List.take_length] at L
    have hout : outsOf t dur pend sec = lefts t w0 (sel (sec : Int) pend) := by unfold outsOf; rw [hw0]
    rw [hout] at q
    exact ⟨_, rfl, q _ l nl L⟩
theorem sc__law_all : FnScope ["snapshot", "tears", "found", "sector", "left", "wider", "row", "contents", "choice"] ["snapshot", "tears"] (defScope s__law_all) := ⟨rfl, rfl, rfl, by decide +kernel, rfl, by decide +kernel, by decide +kernel⟩
theorem ok_all (O : Ok P K mg D) : FnOk P w K mg base CX0 2 D.f_law_all D.d_law_all ["snapshot", "tears"] spAll := by
  have G__law_left : FnOk P w K mg base CX0 1 D.f_law_left D.d_law_left ["snapshot", "sector", "tears"] spOutc := ok_left O
  refine O.F_law_all.ok sc__law_all (fun vs H Q E h => ?_) (fun cdv A outer s H vs Q E hr h => ?_)
  · obtain ⟨v, t, dur, pend, W, rfl, _⟩ := h
    rfl
  obtain ⟨v, t, dur, pend, W, rfl, hv, G, hd, hbig, q⟩ := h
  have nd := sc__law_all.nd
  have hu := hu_of hr
  have bk : ∀ own scope, blkC ["snapshot", "tears", "found", "sector", "left", "wider", "row", "contents", "choice"] (defScope s__law_all) scope own = true → BlkOk ["snapshot", "tears", "found", "sector", "left", "wider", "row", "contents", "choice"] (defScope s__law_all) scope own := fun own scope h => blkOk_by h
  refine ⟨_, (pss_cons (ps_set (i := 2) nd rfl (Or.inl rfl) (pe_lst (pa_cons (pe_tup (pa_cons (pe_tup pa_nil) (pa_cons (pe_tup pa_nil) pa_nil))) pa_nil)))
    (pss_cons (ps_for PassesOwn.never rfl (pi_range1 (by rfl) O.zrange (pa_cons (pe_callB (r := rLenQ K) call_lenK (by rfl) O.zlen PySem.boot_len (pa_cons (pe_ix (r := rIxT K) ix_tup (pv 0) pe_int (fun _ _ => rfl)) pa_nil)) pa_nil)) (pg_name (i := 3) nd rfl (Or.inl rfl)) (pss_cons (ps_set (i := 4) nd rfl (Or.inl rfl) (pe_call G__law_left (hr.mono (by omega)) rfl O.m_law_left O.F_law_left.kp O.b_law_left .nil pass0 (pa_cons (pv 0) (pa_cons (pv 3) (pa_cons (pv 1) pa_nil)))))
    (pss_cons (ps_set (i := 5) nd rfl (Or.inl rfl) (pe_lst pa_nil))
    (pss_cons (ps_for PassesOwn.never rfl (pi_listK (K := K) (pv 2)) (pg_tup rfl (pgs_cons (pg_name (i := 6) nd rfl (Or.inl rfl)) (pgs_cons (pg_name (i := 7) nd rfl (Or.inl rfl)) pgs_nil))) (pss_one (ps_for PassesOwn.never rfl (pi_range1 (by rfl) O.zrange (pa_cons (pe_callB (r := rLenQ K) call_lenK (by rfl) O.zlen PySem.boot_len (pa_cons (pv 4) pa_nil)) pa_nil)) (pg_name (i := 8) nd rfl (Or.inl rfl)) (pss_one (ps_expr (pe_bm PySem.F.plainAttrs_list PySem.F.slot_list_append PySem.F.type_list_append mt_append (pv 5) (pa_cons (pe_tup (pa_cons (pe_op (r := rCatA K) op_catA (pv 6) (pe_tup (pa_cons (pv 8) pa_nil))) (pa_cons (pe_op (r := rCatA K) op_catA (pv 7) (pe_tup (pa_cons (pe_ix (r := rIxL K) ix_list (pv 4) (pv 8) (fun _ _ => rfl)) pa_nil))) pa_nil))) pa_nil)))))))
    (pss_one (ps_set (i := 2) nd rfl (Or.inl rfl) (pv 5)))))))
    (pss_one (ps_ret (pv 2))))), ?_⟩
  obtain ⟨p, c, pp, cs, ps, rfl, h1, h2, h3, h4, h5⟩ := hv.ofSnap
  have lc := h3.len
  rw [List.length_map] at lc
  refine ⟨Nat.zero_le _, fun e0 ne0 => ⟨Nat.zero_le _, fun e1 ne1 => ⟨(by show 2 ≤ sizeLine; decide), fun e2 ne2 => ⟨(by show 1 ≤ sizeLine; decide), fun f0 nf0 => ?_⟩⟩⟩⟩
  have g0 : Chg [] [] H (upd H e0 (.tup [])) := Chg.mk0 ne0 _
  have g1 := g0.trans (Chg.mk0 ne1 (.tup []))
  have g2 := g1.trans (Chg.mk0 ne2 (.tup [.ref e0, .ref e1]))
  have g3 := g2.trans (Chg.mk0 nf0 (.lst [.ref e2]))
  have hf0 : H f0 = none := g2.dom _ nf0
  have hp0 : Ft (upd (upd (upd (upd H e0 (.tup [])) e1 (.tup [])) e2 (.tup [.ref e0, .ref e1])) f0 (.lst [.ref e2])) (pr ([], [])) (.ref e2) := by
    have k0 : upd (upd (upd H e0 (.tup [])) e1 (.tup [])) e2 (.tup [.ref e0, .ref e1]) e0 = some (.tup []) := (Chg.trans (fp := []) (Chg.mk0 (fp := []) ne1 (.tup [])) (Chg.mk0 ne2 (.tup [.ref e0, .ref e1]))).tups _ _ upd_same
    have k1 : upd (upd (upd H e0 (.tup [])) e1 (.tup [])) e2 (.tup [.ref e0, .ref e1]) e1 = some (.tup []) := (Chg.mk0 (fp := []) ne2 (.tup [.ref e0, .ref e1])).tups _ _ upd_same
    exact (Ft.mkTup upd_same (.cons (Ft.mkWd (ws := []) k0) (.cons (Ft.mkTup (ds := []) k1 .nil) .nil))).mono (Chg.mk0 (fp := []) nf0 (.lst [.ref e2])).tups
  refine ⟨_, rfl, p, _, 0, .ref c, rfl, rfl, SqT.of (g3.tups _ _ h1), at_of (j := 0) rfl rfl, c, cs, rfl, .inr (SqT.of (g3.tups _ _ h2)), _, rfl, by omega, by omega, ?_⟩
  rw [show (((cs.length : Nat) : Int)).toNat = dur.length by omega]
  refine for_range (lo := 0) (n := dur.length) (fun i σ H' => ∃ f x3 x4 x5 x6 x7 x8, σ = [some (.ref p), some (.bl t), some (.ref f), x3, x4, x5, x6, x7, x8] ∧ H f = none ∧ LAt f H ((allL (outs t dur pend i)).map pr) H')
    ⟨f0, none, none, none, none, none, none, rfl, hf0, ⟨[.ref e2], upd_same, .cons hp0 .nil, g3⟩⟩ ?_ ?_
  · rintro i σ H' hi ⟨f, x3, x4, x5, x6, x7, x8, rfl, nf, L⟩
    have e0i : (0 : Int) + (i : Int) = (i : Int) := Int.zero_add _
    refine ⟨_, rfl, _, rfl, _, rfl, .ref p, i, t, dur, pend, W, by rw [e0i]; rfl, hv.mono L.chg.tups, G, hi, fun H2 fl nfl LF => ?_⟩
    have L2' := L.keep LF.chg
    obtain ⟨acc, k1, k2, k3⟩ := id L2'
    obtain ⟨bcc, b1, b2, b3⟩ := id LF
    have lk := k2.len
    rw [List.length_map] at lk
    have lb := b2.len
    rw [List.length_map] at lb
    have tot : (grow (allL (outs t dur pend i)) (en (outsOf t dur pend i))).length ≤ 1000000 := by
      have := outs_len_mono t dur pend (i + 1) dur.length hi
      rw [outs_snoc, allL_snoc] at this
      omega
    rw [grow_len] at tot
    have hob := outsOf_len (t := t) (s := i) G
    refine ⟨Nat.zero_le _, fun d nd1 => ?_⟩
    have nd2 : H d = none := k3.dom _ nd1
    have gd : Chg [] [] H2 (upd H2 d (.lst [])) := Chg.mk0 nd1 _
    have k1' := gd.keep _ _ k1 (by intro h; cases h)
    have b1' := gd.keep _ _ b1 (by intro h; cases h)
    refine ⟨_, rfl, f, rfl, ⟨acc, SqL.of k1'⟩, ?_⟩
    refine for_list (K := K) (a := f) (xs := acc) (fun j σ H3 => ∃ x6 x7 x8, σ = [some (.ref p), some (.bl t), some (.ref f), some (.int (0 + (i : Int))), some (.ref fl), some (.ref d), x6, x7, x8] ∧ LAt d H2 ((gpart (allL (outs t dur pend i)) (en (outsOf t dur pend i)) j 0).map pr) H3)
      ⟨x6, x7, x8, rfl, by rw [gpart_zero]; exact LAt.start nd1⟩ (fun j σ H3 _ ⟨_, _, _, _, L3⟩ => SqL.of (L3.chg.keep _ _ k1 (by intro h; cases h))) ?_ ?_
    · rintro j y σ H3 hj ⟨x6, x7, x8, rfl, L3⟩
      have hja : j < acc.length := (List.getElem?_eq_some_iff.mp hj).1
      have hpj : (allL (outs t dur pend i))[j]? = some ((allL (outs t dur pend i))[j]'(by omega)) := List.getElem?_eq_getElem (by omega)
      generalize (allL (outs t dur pend i))[j]'(by omega) = pj at hpj
      obtain ⟨y', hy', fy⟩ := k2.get (i := j) (d := pr pj) (by rw [List.getElem?_map, hpj]; rfl)
      rw [hj] at hy'
      cases hy'
      obtain ⟨qa, ra, rb, cs', rfl, hq1, hra, hrb, frb⟩ := fy.ofPr
      have hrow : RowOf (outs t dur pend i) pj := allL_row t dur pend i pj (List.mem_of_getElem? hpj)
      have hlo : (outs t dur pend i).length = i := by unfold outs; rw [List.length_map, List.length_range]
      have hrl : pj.1.length ≤ 1000 := by rw [hrow.1, hlo]; omega
      have hrl2 : pj.2.length ≤ 1000 := by
        rw [hrow.2.1]
        unfold imgOf
        rw [List.length_zipWith, hlo]; omega
      refine ⟨qa, _, rfl, SqT.of (L3.chg.tups _ _ hq1), rfl, _, _, rfl, _, _, rfl, rfl, ?_⟩
      refine ⟨_, rfl, fl, bcc, rfl, .inl (SqL.of (L3.chg.keep _ _ b1 (by intro h; cases h))), _, rfl, by omega, by omega, ?_⟩
      rw [show (((bcc.length : Nat) : Int)).toNat = (outsOf t dur pend i).length by omega]
      refine for_range (lo := 0) (n := (outsOf t dur pend i).length) (fun k σ H5 => ∃ x8, σ = [some (.ref p), some (.bl t), some (.ref f), some (.int (0 + (i : Int))), some (.ref fl), some (.ref d), some (.ref ra), some (.ref rb), x8] ∧ LAt d H2 ((gpart (allL (outs t dur pend i)) (en (outsOf t dur pend i)) j k).map pr) H5)
        ⟨x8, rfl, L3⟩ ?_ ?_
      · rintro k σ H5 hk ⟨x8, rfl, L5⟩
        obtain ⟨a5, n1, n2, n3⟩ := id L5
        obtain ⟨yw, hyw, fw⟩ := b2.get (i := k) (d := wd (outsOf t dur pend i)[k]) (by rw [List.getElem?_map, List.getElem?_eq_getElem hk]; rfl)
        refine ⟨_, rfl, .inl ⟨rfl, _, SqL.of n1⟩, _, rfl, _, rfl, ?_⟩
        refine cat_one (ds := pj.1.map .int) (e := .int (k : Int)) (L5.chg.tups _ _ hra) .ints (by rw [Int.zero_add]; exact Ft.mkInt _) (by rw [List.length_map]; omega) fun v1 H7 c7 f7 => ?_
        have b17 := (L5.chg.trans c7).keep _ _ b1 (by intro h; cases h)
        have lcs := frb.len
        rw [List.length_map] at lcs
        refine ⟨_, rfl, _, rfl, _, rfl, fl, bcc, _, yw, rfl, rfl, SqL.of b17, at_of (j := k) (Int.zero_add _) hyw, ?_⟩
        refine cat_one (ds := pj.2.map wd) (e := wd (outsOf t dur pend i)[k]) ((L5.chg.trans c7).tups _ _ hrb) (frb.mono (L5.chg.trans c7).tups) (fw.mono (L5.chg.trans c7).tups) (by omega) fun v2 H8 c8 f8 => ?_
        refine ⟨(by show 2 ≤ sizeLine; decide), fun u nu => ?_⟩
        have c9 := (c7.trans c8).trans (Chg.mk0 nu (.tup [v1, v2]))
        have hlen := gpart_len (allL (outs t dur pend i)) (en (outsOf t dur pend i)) j k (by omega) (by rw [en_len]; omega)
        have t9 := (Chg.mk0 (fp := []) nu (.tup [v1, v2])).tups
        obtain ⟨a6, p1, p2, p3⟩ := L5.push (e := pr (ext pj ((k : Int), (outsOf t dur pend i)[k]))) nd1 c9 (Ft.mkTup upd_same (.cons (by show Ft _ (wd (pj.1 ++ [(k : Int)])) _; unfold wd; rw [List.map_append]; exact (f7.mono c8.tups).mono t9) (.cons (by show Ft _ (ct (pj.2 ++ [(outsOf t dur pend i)[k]])) _; unfold ct; rw [List.map_append]; exact f8.mono t9) .nil))) (by rw [List.length_map]; exact sl (by omega))
        refine ⟨d, a6, _, rfl, rfl, p1, p2, _, rfl, ?_⟩
        rw [gpart_next _ _ _ _ _ _ hpj (en_get _ _ hk), List.map_append]
        exact p3
      · rintro σ H5 ⟨x8, rfl, L5⟩
        refine ⟨_, _, _, rfl, ?_⟩
        have := gpart_full (allL (outs t dur pend i)) (en (outsOf t dur pend i)) j pj hpj
        rw [en_len] at this
        rw [gpart_zero, ← this]
        exact L5
    · rintro σ H3 ⟨x6, x7, x8, rfl, L3⟩
      rw [gpart_zero, lk, List.take_length, ← allL_snoc, ← outs_snoc] at L3
      obtain ⟨a3, m1, m2, m3⟩ := L3
      exact ⟨_, rfl, d, _, _, _, _, _, _, rfl, nd2, a3, m1, m2, k3.trans m3⟩
  · rintro σ H' ⟨f, x3, x4, x5, x6, x7, x8, rfl, nf, L⟩
    exact ⟨_, rfl, q _ f nf L⟩
end
end S5
namespace S5
open PySem L2
theorem allL_bound {W : Nat} {t : Bool} {dur : List Ws} {pend : List (Int × Ws)} (g : Good W dur pend) (hW : W ≤ 4) (hp : pend.length ≤ 5) : ∀ n, (allL (outs t dur pend n)).length ≤ 26 ^ n
  | 0 => by simp [outs, allL, allFrom]
  | n + 1 => by
    rw [outs_snoc, allL_snoc, grow_len, en_len, Nat.pow_succ]
    have h := lefts_len (W := W) t (sel (n : Int) pend) (dur.getD n []) (sel_mem g.gpend)
    have h2 := sel_len (n : Int) pend
    have h5 : (sel (n : Int) pend).length * (W + 1) ≤ 5 * 5 := Nat.mul_le_mul (by omega) (by omega)
    exact Nat.mul_le_mul (allL_bound g hW hp n) (by unfold outsOf; omega)
theorem bound4 {W : Nat} {t : Bool} {dur : List Ws} {pend : List (Int × Ws)} (g : Good W dur pend) (hW : W ≤ 4) (hp : pend.length ≤ 5) (hd : dur.length ≤ 4) : (allL (outs t dur pend dur.length)).length ≤ 1000000 := by
  have h := allL_bound (t := t) g hW hp dur.length
  have : 26 ^ dur.length ≤ 26 ^ 4 := Nat.pow_le_pow_right (by decide) hd
  have e : (26 : Nat) ^ 4 = 456976 := by decide
  omega
def spLaw (K : PySem.W.Frag) : Sp := fun vs H Q _ => ∃ (a : Addr) (ns : List Int), vs = [.ref a] ∧ SqL K H a (ns.map V.int) ∧ ns.length ≤ 63 ∧ ∀ H', Q (.bl true) H'
theorem shp_pr (p : RC) : Shp 3 (pr p) := Shp.tuple fun d hd => by
  rcases List.mem_cons.mp hd with rfl | hd
  · exact (shp_wd _).mono (by decide)
  · rw [List.mem_singleton.mp hd]; exact shp_ct _
theorem shp_list {α : Type} {n : Nat} {f : α → PyData} (h : ∀ x, Shp n (f x)) (xs : List α) : Shp (n + 1) (.list (xs.map f)) := Shp.list fun d hd => by
  obtain ⟨x, _, rfl⟩ := List.mem_map.mp hd
  exact h x
/-- the lists of the law, the state -/
structure Wl (H : Hp) (st c dl pl : Addr) (dur : List Ws) (pend : List (Int × Ws)) : Prop where
  S : StAt H st c
  fdl : ∃ xs, H dl = some (.lst xs) ∧ FtAll H (dur.map wd) xs
  fpl : ∃ xs, H pl = some (.lst xs) ∧ FtAll H (pend.map pw) xs
  n1 : dl ≠ st ∧ dl ≠ c ∧ pl ≠ st ∧ pl ≠ c ∧ dl ≠ pl
section
variable {H H' : Hp} {st c dl pl : Addr} {dur : List Ws} {pend : List (Int × Ws)} {fp fp' : List Addr}
theorem Wl.draw (W : Wl H st c dl pl dur pend) (g : Chg [st, c] fp' H H') (S : StAt H' st c) : Wl H' st c dl pl dur pend := by
  obtain ⟨xs, x1, x2⟩ := W.fdl
  obtain ⟨ys, y1, y2⟩ := W.fpl
  obtain ⟨a1, a2, a3, a4, a5⟩ := W.n1
  exact ⟨S, ⟨xs, g.keep _ _ x1 (no2 a1 a2), x2.mono g.tups⟩, ⟨ys, g.keep _ _ y1 (no2 a3 a4), y2.mono g.tups⟩, W.n1⟩
theorem Wl.aside (W : Wl H st c dl pl dur pend) (g : Chg [] fp' H H') : Wl H' st c dl pl dur pend := by
  obtain ⟨xs, x1, x2⟩ := W.fdl
  obtain ⟨ys, y1, y2⟩ := W.fpl
  exact ⟨W.S.keep g (by intro h; cases h) (by intro h; cases h), ⟨xs, g.keep _ _ x1 (by intro h; cases h), x2.mono g.tups⟩, ⟨ys, g.keep _ _ y1 (by intro h; cases h), y2.mono g.tups⟩, W.n1⟩
theorem Wl.setPl (W : Wl H st c dl pl dur pend) {pend2 : List (Int × Ws)} {ys : List V} (f : FtAll H (pend2.map pw) ys) : Wl (upd H pl (.lst ys)) st c dl pl dur pend2 := by
  obtain ⟨xs, x1, x2⟩ := W.fdl
  obtain ⟨ys0, y1, y2⟩ := W.fpl
  obtain ⟨a1, a2, a3, a4, a5⟩ := W.n1
  have g : Chg [pl] [pl] H (upd H pl (.lst ys)) := Chg.set y1 (.head _) (fun _ z => by cases z) _
  exact ⟨W.S.keep g (no1 (Ne.symm a3)) (no1 (Ne.symm a4)), ⟨xs, g.keep _ _ x1 (no1 a5), x2.mono g.tups⟩, ⟨ys, upd_same, f.mono g.tups⟩, W.n1⟩
end
/-- tuple([_law_draw(state, 16) for j in range(width)]) -/
theorem lc_draws {st c d : Addr} {H : Hp} {n : Nat} {Qd : Hp → Prop} {B : V → Hp → (Hp → Prop) → Prop} (S : StAt H st c) (nd : H d = none) (hn : n ≤ 1000)
    (hs : ∀ (x : V) (H1 : Hp) (Nx : Hp → Prop), StAt H1 st c → (∀ (r : Int) (H2 : Hp), Go st c H1 H2 → ∃ acc, H2 d = some (.lst acc) ∧ acc.length < sizeLine ∧ Nx (upd H2 d (.lst (acc ++ [.int r])))) → B x H1 Nx)
    (hd : ∀ (H' : Hp) (ws : List Int), Chg [st, c] [st, c] H H' → StAt H' st c → H' d = some (.lst (ws.map V.int)) → ws.length = n → Qd H') :
    ∃ W : Nat → Nat → Hp → Prop, (∃ m, W 0 m (upd H d (.lst []))) ∧ ∀ i m H', W i m H' →
      ((Itr 0 n).stop i H' ∧ Qd H') ∨ ((Itr 0 n).go i H' ∧ ∃ Nx : Hp → Prop, (∀ H', Nx H' → ∃ m', m' < m ∧ W (i + 1) m' H') ∧ ∀ x H1, (Itr 0 n).yld i H' x H1 → B x H1 Nx) := by
  obtain ⟨f1, f2⟩ := S.free nd
  obtain ⟨j1, j2, j3⟩ := wk_range (fp := [st, c]) (H0 := H) (n := n) (Iv := fun _ H => StAt H st c)
  refine lc_chg (fun _ z v => v = V.int z) (fun _ H => StAt H st c) (fun _ _ => True) (fun _ _ _ _ _ _ h => h) nd (no2 f1 f2) (by omega) (fun _ _ _ S _ => stAt_upd S f1 f2) S j1 j2 j3 ?_ ?_
  · intro i x H1 acc hi hx g S1 hacc Nx k
    exact hs x H1 Nx S1 fun r H2 g2 => k _ _ r (g2.chg S1) g2.st rfl trivial
  · intro H' zs acc g S' hacc he hl hz
    have e : acc = zs.map V.int := by
      clear hacc hl hz
      induction zs generalizing acc with
      | nil => cases acc with
        | nil => rfl
        | cons _ _ => exact he.elim
      | cons z zs ih => cases acc with
        | nil => exact he.elim
        | cons x acc => rw [he.1, ih acc he.2]; rfl
    rw [e] at hacc
    exact hd H' zs g S' hacc hl
section
variable {P : Program} {w : World} {K : PySem.W.Frag} {mg : Str → Option Value} {base : Heap} {D : Defs}
theorem sc_law : FnScope ["script", "state", "sectors", "width", "durable", "k", "pending", "sector", "words", "snapshot", "tears", "due", "first", "images", "row", "contents", "j", "pair"] ["script"] (defScope s_law) := ⟨rfl, rfl, rfl, by decide +kernel, rfl, by decide +kernel, by decide +kernel⟩
theorem ok_law (O : Ok P K mg D) : FnOk P w K mg base CX0 5 D.flaw D.dlaw ["script"] (spLaw K) := by
  have G__law_state : FnOk P w K mg base CX0 1 D.f_law_state D.d_law_state ["script"] (spState K) := ok_state O
  have G__law_draw : FnOk P w K mg base CX0 1 D.f_law_draw D.d_law_draw ["state", "many"] spDraw := ok_draw O
  have G__law_left : FnOk P w K mg base CX0 1 D.f_law_left D.d_law_left ["snapshot", "sector", "tears"] spOutc := ok_left O
  have G__law_all : FnOk P w K mg base CX0 2 D.f_law_all D.d_law_all ["snapshot", "tears"] spAll := ok_all O
  have G_choices : FnOk P w K mg base CX0 2 D.fchoices D.dchoices ["snapshot", "sector", "tears"] spChoices := ok_choices O
  have G_image : FnOk P w K mg base CX0 2 D.fimage D.dimage ["snapshot", "tears", "row"] spImage := ok_image O
  have G_rows : FnOk P w K mg base CX0 3 D.frows D.drows ["snapshot", "tears"] spRows := ok_rows O
  have G_distinct : FnOk P w K mg base CX0 3 D.fdistinct D.ddistinct ["snapshot", "tears"] spDistinct := ok_distinct O
  refine O.Flaw.ok sc_law (fun vs H Q E h => ?_) (fun cdv A outer s H vs Q E hr h => ?_)
  · obtain ⟨a, ns, rfl, _⟩ := h
    rfl
  obtain ⟨a, ns, rfl, hS, hlen, q⟩ := h
  have nd := sc_law.nd
  have hu := hu_of hr
  have bk : ∀ own scope, blkC ["script", "state", "sectors", "width", "durable", "k", "pending", "sector", "words", "snapshot", "tears", "due", "first", "images", "row", "contents", "j", "pair"] (defScope s_law) scope own = true → BlkOk ["script", "state", "sectors", "width", "durable", "k", "pending", "sector", "words", "snapshot", "tears", "due", "first", "images", "row", "contents", "j", "pair"] (defScope s_law) scope own := fun own scope h => blkOk_by h
  refine ⟨_, (pss_cons (ps_set (i := 1) nd rfl (Or.inr rfl) (pe_call G__law_state (hr.mono (by omega)) rfl O.m_law_state O.F_law_state.kp O.b_law_state .nil pass0 (pa_cons (pv 0) pa_nil)))
    (pss_cons (ps_set (i := 2) nd rfl (Or.inl rfl) (pe_op op_add pe_int (pe_call G__law_draw (hr.mono (by omega)) rfl O.m_law_draw O.F_law_draw.kp O.b_law_draw .nil pass0 (pa_cons (pv 1) (pa_cons pe_int pa_nil)))))
    (pss_cons (ps_set (i := 3) nd rfl (Or.inl rfl) (pe_op op_add pe_int (pe_call G__law_draw (hr.mono (by omega)) rfl O.m_law_draw O.F_law_draw.kp O.b_law_draw .nil pass0 (pa_cons (pv 1) (pa_cons pe_int pa_nil)))))
    (pss_cons (ps_set (i := 4) nd rfl (Or.inl rfl) (pe_lst pa_nil))
    (C8.pss_cut (ps_for PassesOwn.never rfl (pi_range1 (by rfl) O.zrange (pa_cons (pv 2) pa_nil)) (pg_name (i := 5) nd rfl (Or.inl rfl)) (pss_one (ps_expr (pe_bm PySem.F.plainAttrs_list PySem.F.slot_list_append PySem.F.type_list_append mt_append (pv 4) (pa_cons (pe_callTy (r := rTupOf K) call_tupK (by rfl) O.ztuple PyProof.Rows.boot_tuple (pa_cons (pe_lc (own := [("j", 16)]) (g := gName 16) (by rfl) nd (pi_range1 (by rfl) O.zrange (pa_cons (pv 3) pa_nil)) (bk [("j", 16)] _ (by decide +kernel)) (fun _ _ _ _ _ => (pg_name (i := 16) nd rfl (Or.inl rfl))) (fun _ _ _ _ _ => pts_nil) (fun _ _ _ _ _ => (pe_call G__law_draw (hr.mono (by omega)) rfl O.m_law_draw O.F_law_draw.kp O.b_law_draw .nil pass0 (pa_cons (pv 1) (pa_cons pe_int pa_nil))))) pa_nil)) pa_nil)))))
    (pss_cons (ps_set (i := 6) nd rfl (Or.inl rfl) (pe_lst pa_nil))
    (C8.pss_cut (ps_for PassesOwn.never rfl (pi_range1 (by rfl) O.zrange (pa_cons (pe_call G__law_draw (hr.mono (by omega)) rfl O.m_law_draw O.F_law_draw.kp O.b_law_draw .nil pass0 (pa_cons (pv 1) (pa_cons pe_int pa_nil))) pa_nil)) (pg_name (i := 5) nd rfl (Or.inl rfl)) (pss_cons (ps_set (i := 7) nd rfl (Or.inl rfl) (pe_call G__law_draw (hr.mono (by omega)) rfl O.m_law_draw O.F_law_draw.kp O.b_law_draw .nil pass0 (pa_cons (pv 1) (pa_cons (pv 2) pa_nil))))
    (pss_cons (ps_set (i := 8) nd rfl (Or.inl rfl) (pe_callTy (r := rTupOf K) call_tupK (by rfl) O.ztuple PyProof.Rows.boot_tuple (pa_cons (pe_lc (own := [("j", 16)]) (g := gName 16) (by rfl) nd (pi_range1 (by rfl) O.zrange (pa_cons (pv 3) pa_nil)) (bk [("j", 16)] _ (by decide +kernel)) (fun _ _ _ _ _ => (pg_name (i := 16) nd rfl (Or.inl rfl))) (fun _ _ _ _ _ => pts_nil) (fun _ _ _ _ _ => (pe_call G__law_draw (hr.mono (by omega)) rfl O.m_law_draw O.F_law_draw.kp O.b_law_draw .nil pass0 (pa_cons (pv 1) (pa_cons pe_int pa_nil))))) pa_nil)))
    (C8.pss_cut (ps_if (pt_cmpR op_eq (pe_call G__law_draw (hr.mono (by omega)) rfl O.m_law_draw O.F_law_draw.kp O.b_law_draw .nil pass0 (pa_cons (pv 1) (pa_cons pe_int pa_nil))) pe_int (nomark _)) (pss_one (ps_set (i := 8) nd rfl (Or.inl rfl) (pe_ix (r := rIxL K) ix_list (pv 4) (pv 7) (fun _ _ => rfl)))) pss_nil)
    (pss_one (ps_expr (pe_bm PySem.F.plainAttrs_list PySem.F.slot_list_append PySem.F.type_list_append mt_append (pv 6) (pa_cons (pe_tup (pa_cons (pv 7) (pa_cons (pv 8) pa_nil))) pa_nil))))))))
    (pss_cons (ps_set (i := 9) nd rfl (Or.inl rfl) (pe_tup (pa_cons (pe_callTy (r := rTupOf K) call_tupK (by rfl) O.ztuple PyProof.Rows.boot_tuple (pa_cons (pv 4) pa_nil)) (pa_cons (pe_callTy (r := rTupOf K) call_tupK (by rfl) O.ztuple PyProof.Rows.boot_tuple (pa_cons (pv 6) pa_nil)) pa_nil))))
    (pss_cons (ps_for PassesOwn.never rfl (pi_listK (K := K) (pe_lst (pa_cons pe_bl (pa_cons pe_bl pa_nil)))) (pg_name (i := 10) nd rfl (Or.inl rfl)) (pss_cons (ps_set (i := 11) nd rfl (Or.inl rfl) (pe_call G__law_all (hr.mono (by omega)) rfl O.m_law_all O.F_law_all.kp O.b_law_all .nil pass0 (pa_cons (pv 9) (pa_cons (pv 10) pa_nil))))
    (pss_cons (ps_if (pt_cmpR (r := rNeD K) (op_neD hr.units) (pe_call G_rows (hr.mono (by omega)) rfl O.mrows O.Frows.kp O.brows .nil pass0 (pa_cons (pv 9) (pa_cons (pv 10) pa_nil))) (pe_lc (own := [("pair", 17)]) (g := gName 17) (by rfl) nd (pi_listK (K := K) (pv 11)) (bk [("pair", 17)] _ (by decide +kernel)) (fun _ _ _ _ _ => (pg_name (i := 17) nd rfl (Or.inl rfl))) (fun _ _ _ _ _ => pts_nil) (fun _ _ _ _ _ => (pe_ix (r := rIxT K) ix_tup (pv 17) pe_int (fun _ _ => rfl)))) (nomark _)) (pss_one (ps_ret pe_bl)) pss_nil)
    (C8.pss_cut (ps_for PassesOwn.never rfl (pi_range1 (by rfl) O.zrange (pa_cons (pv 2) pa_nil)) (pg_name (i := 7) nd rfl (Or.inl rfl)) (pss_one (ps_if (pt_cmpR op_ne (pe_call G_choices (hr.mono (by omega)) rfl O.mchoices O.Fchoices.kp O.bchoices .nil pass0 (pa_cons (pv 9) (pa_cons (pv 7) (pa_cons (pv 10) pa_nil)))) (pe_callB (r := rLenQ K) call_lenK (by rfl) O.zlen PySem.boot_len (pa_cons (pe_call G__law_left (hr.mono (by omega)) rfl O.m_law_left O.F_law_left.kp O.b_law_left .nil pass0 (pa_cons (pv 9) (pa_cons (pv 7) (pa_cons (pv 10) pa_nil)))) pa_nil)) (nomark _)) (pss_one (ps_ret pe_bl)) pss_nil)))
    (pss_cons (ps_set (i := 12) nd rfl (Or.inl rfl) (pe_lst pa_nil))
    (pss_cons (ps_set (i := 13) nd rfl (Or.inl rfl) pe_dnewN)
    (C8.pss_cut (ps_for PassesOwn.never rfl (pi_listK (K := K) (pv 11)) (pg_tup rfl (pgs_cons (pg_name (i := 14) nd rfl (Or.inl rfl)) (pgs_cons (pg_name (i := 15) nd rfl (Or.inl rfl)) pgs_nil))) (pss_cons (ps_if (pt_cmpR (r := rNeD K) (op_neD hr.units) (pe_call G_image (hr.mono (by omega)) rfl O.mimage O.Fimage.kp O.bimage .nil pass0 (pa_cons (pv 9) (pa_cons (pv 10) (pa_cons (pv 14) pa_nil)))) (pv 15) (nomark _)) (pss_one (ps_ret pe_bl)) pss_nil)
    (pss_one (ps_if (pt_cmp (pc_notinN hr.units (pv 15) (pv 13))) (pss_cons (ps_dputN hr.units (pv 13) (pv 15) pe_bl rfl)
    (pss_one (ps_expr (pe_bm PySem.F.plainAttrs_list PySem.F.slot_list_append PySem.F.type_list_append mt_append (pv 12) (pa_cons (pe_tup (pa_cons (pv 14) (pa_cons (pv 15) pa_nil))) pa_nil))))) pss_nil))))
    (pss_one (ps_if (pt_cmpR (r := rNeD K) (op_neD hr.units) (pe_call G_distinct (hr.mono (by omega)) rfl O.mdistinct O.Fdistinct.kp O.bdistinct .nil pass0 (pa_cons (pv 9) (pa_cons (pv 10) pa_nil))) (pv 12) (nomark _)) (pss_one (ps_ret pe_bl)) pss_nil)))))))))
    (pss_one (ps_ret pe_bl))))))))))), ?_⟩
  refine ⟨_, rfl, a, ns, rfl, hS, hlen, fun st c H1 s1 nst nc S1 => ?_⟩
  refine ⟨_, rfl, st, c, 4, rfl, S1, by decide, by decide, fun r1 H2 a1 a2 g2 => ⟨_, _, rfl, rfl, ?_⟩⟩
  refine ⟨_, rfl, st, c, 4, rfl, g2.st, by decide, by decide, fun r2 H3 b1 b2 g3 => ⟨_, _, rfl, rfl, ?_⟩⟩
  refine ⟨Nat.zero_le _, fun dl ndl => ?_⟩
  have S3 := g3.st
  obtain ⟨nd1, nd2⟩ := S3.free ndl
  refine ⟨fun σ H' => ∃ (x5 : Option V) (dur : List Ws), σ = [some (.ref a), some (.ref st), some (.int (1 + r1)), some (.int (1 + r2)), some (.ref dl), x5, none, none, none, none, none, none, none, none, none, none, none, none] ∧ StAt H' st c ∧ (∃ xs, H' dl = some (.lst xs) ∧ FtAll H' (dur.map wd) xs) ∧ dur.length = (1 + r1).toNat ∧ ∀ ws ∈ dur, ws.length = (1 + r2).toNat, ?_, ?_⟩
  · refine ⟨_, rfl, 1 + r1, rfl, by omega, by omega, ?_⟩
    refine for_range (lo := 0) (n := (1 + r1).toNat) (fun i σ H' => ∃ (x5 : Option V) (dur : List Ws), σ = [some (.ref a), some (.ref st), some (.int (1 + r1)), some (.int (1 + r2)), some (.ref dl), x5, none, none, none, none, none, none, none, none, none, none, none, none] ∧ StAt H' st c ∧ (∃ xs, H' dl = some (.lst xs) ∧ FtAll H' (dur.map wd) xs) ∧ dur.length = i ∧ ∀ ws ∈ dur, ws.length = (1 + r2).toNat)
      ⟨none, [], rfl, stAt_upd S3 nd1 nd2, ⟨[], upd_same, .nil⟩, rfl, fun ws h => by cases h⟩ ?_ ?_
    · rintro i σ H' hi ⟨x5, dur, rfl, S', ⟨xs, x1, x2⟩, ld, lw⟩
      have lx := x2.len
      rw [List.length_map] at lx
      refine ⟨_, rfl, .inl ⟨rfl, _, SqL.of x1⟩, _, rfl, 1 + r2, rfl, by omega, by omega, fun d nd => ?_⟩
      refine lc_draws S' nd (by omega) ?_ ?_
      · intro x H5 Nx S5 k
        refine ⟨rfl, yes (iteT ?_)⟩
        exact ⟨_, rfl, st, c, _, rfl, S5, by decide, by decide, fun r H6 _ _ g6 => k r H6 g6⟩
      · intro H5 ws g5 S5 hd5 lws
        refine ⟨d, _, rfl, .inl ⟨SqL.of hd5, fun t nt => ?_⟩⟩
        have g6 : Chg [] [] H5 (upd H5 t (.tup (ws.map V.int))) := Chg.mk0 nt _
        have x1' := g6.keep _ _ (g5.keep _ _ x1 (no2 nd1 nd2)) (by intro h; cases h)
        have x2' := (x2.mono g5.tups).mono g6.tups
        have fw : Ft (upd H5 t (.tup (ws.map V.int))) (wd ws) (.ref t) := Ft.mkWd upd_same
        have S6 := S5.keep g6 (by intro h; cases h) (by intro h; cases h)
        have tu := tups_own (o' := .lst (xs ++ [.ref t])) x1' (fun xs z => by cases z)
        refine ⟨dl, xs, _, rfl, rfl, x1', sl (by omega), _, dur ++ [ws], rfl, stAt_upd S6 nd1 nd2, ⟨_, upd_same, ?_⟩, by rw [List.length_append, ld]; rfl, fun w h => ?_⟩
        · rw [List.map_append]
          exact (x2'.mono tu).app (.cons (fw.mono tu) .nil)
        · rcases List.mem_append.mp h with h | h
          · exact lw w h
          · rw [List.mem_singleton.mp h]; exact lws
    · rintro σ H' h
      exact h
  rintro σ H4 ⟨x5, dur, rfl, S4, ⟨xs, x1, x2⟩, ld, lw⟩
  refine ⟨Nat.zero_le _, fun pl npl => ?_⟩
  obtain ⟨np1, np2⟩ := S4.free npl
  have nlp : dl ≠ pl := ne_of_none x1 npl
  have W0 : Wl (upd H4 pl (.lst [])) st c dl pl dur [] := by
    have g : Chg [] [] H4 (upd H4 pl (.lst [])) := Chg.mk0 npl _
    exact ⟨S4.keep g (by intro h; cases h) (by intro h; cases h), ⟨xs, g.keep _ _ x1 (by intro h; cases h), x2.mono g.tups⟩, ⟨[], upd_same, .nil⟩, nd1, nd2, np1, np2, nlp⟩
  generalize upd H4 pl (.lst []) = H5 at W0
  let sg : Option V → Option V → Option V → L2.St := fun x5 x7 x8 => [some (.ref a), some (.ref st), some (.int (1 + r1)), some (.int (1 + r2)), some (.ref dl), x5, some (.ref pl), x7, x8, none, none, none, none, none, none, none, none, none]
  refine ⟨fun σ H' => ∃ (x5 x7 x8 : Option V) (pend : List (Int × Ws)), σ = sg x5 x7 x8 ∧ Wl H' st c dl pl dur pend ∧ pend.length ≤ 5 ∧ ∀ p ∈ pend, p.2.length = (1 + r2).toNat, ?_, ?_⟩
  · refine ⟨_, rfl, st, c, 6, rfl, W0.S, by decide, by decide, fun rn H6 n1 n2 g6 => ⟨rn, rfl, by omega, by omega, ?_⟩⟩
    have W1 := W0.draw (g6.chg W0.S) g6.st
    refine for_range (lo := 0) (n := rn.toNat) (fun i σ H' => ∃ (x5 x7 x8 : Option V) (pend : List (Int × Ws)), σ = sg x5 x7 x8 ∧ Wl H' st c dl pl dur pend ∧ pend.length ≤ i ∧ ∀ p ∈ pend, p.2.length = (1 + r2).toNat)
      ⟨x5, none, none, [], rfl, W1, Nat.le_refl _, fun p h => by cases h⟩ ?_ ?_
    · rintro i σ H' hi ⟨x5, x7, x8, pend, rfl, W, lp, lpw⟩
      refine ⟨_, rfl, _, rfl, st, c, 1 + r1, rfl, W.S, by omega, by omega, fun sec H7 s0 s1' g7 => ?_⟩
      have W2 := W.draw (g7.chg W.S) g7.st
      refine ⟨_, rfl, 1 + r2, rfl, by omega, by omega, fun d nd => ?_⟩
      refine lc_draws W2.S nd (by omega) ?_ ?_
      · intro x H8 Nx S8 k
        refine ⟨rfl, yes (iteT ?_)⟩
        exact ⟨_, rfl, st, c, _, rfl, S8, by decide, by decide, fun r H9 _ _ g9 => k r H9 g9⟩
      intro H8 ws g8 S8 hd8 lws
      have W3 := W2.draw g8 S8
      refine ⟨d, _, rfl, .inl ⟨SqL.of hd8, fun t nt => ?_⟩⟩
      have g9 : Chg [] [] H8 (upd H8 t (.tup (ws.map V.int))) := Chg.mk0 nt _
      have W4 := W3.aside g9
      have fw : Ft (upd H8 t (.tup (ws.map V.int))) (wd ws) (.ref t) := Ft.mkWd upd_same
      generalize upd H8 t (.tup (ws.map V.int)) = H9 at W4 fw
      refine ⟨fun σ H' => ∃ (v8 : V) (ws' : Ws), σ = sg (some (.int (0 + (i : Int)))) (some (.int sec)) (some v8) ∧ Ft H' (wd ws') v8 ∧ ws'.length = (1 + r2).toNat ∧ Wl H' st c dl pl dur pend, ?_, ?_⟩
      · refine ⟨_, rfl, st, c, 4, rfl, W4.S, by decide, by decide, fun r H10 _ _ g10 => ⟨rfl, _, rfl, ite2 (fun _ => ?_) (fun _ => ?_)⟩⟩
        · have W5 := W4.draw (g10.chg W4.S) g10.st
          obtain ⟨xs, x1, x2⟩ := W5.fdl
          have hs : sec.toNat < dur.length := by omega
          obtain ⟨x, hx, fx⟩ := x2.get (i := sec.toNat) (d := wd dur[sec.toNat]) (by rw [List.getElem?_map, List.getElem?_eq_getElem hs]; rfl)
          exact ⟨_, rfl, _, rfl, dl, xs, sec, x, rfl, rfl, SqL.of x1, at_of (j := sec.toNat) (by omega) hx, x, dur[sec.toNat], rfl, fx, lw _ (List.getElem_mem hs), W5⟩
        · exact ⟨.ref t, ws, rfl, fw.mono (g10.chg W4.S).tups, lws, W4.draw (g10.chg W4.S) g10.st⟩
      · rintro σ H10 ⟨v8, ws', rfl, f8, l8, W5⟩
        obtain ⟨ys, y1, y2⟩ := W5.fpl
        have ly := y2.len
        rw [List.length_map] at ly
        refine ⟨_, rfl, .inl ⟨rfl, _, SqL.of y1⟩, _, rfl, _, rfl, (by show 2 ≤ sizeLine; decide), fun u nu => ?_⟩
        have g11 : Chg [] [] H10 (upd H10 u (.tup [.int sec, v8])) := Chg.mk0 nu _
        have W6 := W5.aside g11
        refine ⟨pl, ys, _, rfl, rfl, g11.keep _ _ y1 (by intro h; cases h), sl (by omega), ?_⟩
        have W7 := W6.setPl (pend2 := pend ++ [(sec, ws')]) (ys := ys ++ [.ref u]) (by
          rw [List.map_append]
          exact (y2.mono g11.tups).app (.cons (Ft.mkTup upd_same (.cons (Ft.mkInt _) (.cons (f8.mono g11.tups) .nil))) .nil))
        refine ⟨_, _, _, pend ++ [(sec, ws')], rfl, W7, by rw [List.length_append, List.length_singleton]; omega, fun p h => ?_⟩
        rcases List.mem_append.mp h with h | h
        · exact lpw p h
        · rw [List.mem_singleton.mp h]; exact l8
    · rintro σ H' ⟨x5, x7, x8, pend, rfl, W, lp, lpw⟩
      exact ⟨x5, x7, x8, pend, rfl, W, by omega, lpw⟩
  rintro σ H6 ⟨x5, x7, x8, pend, rfl, W, lp, lpw⟩
  obtain ⟨xs, x1, x2⟩ := W.fdl
  obtain ⟨ys, y1, y2⟩ := W.fpl
  have G : Good (1 + r2).toNat dur pend := ⟨by omega, by omega, lw, lpw, by omega⟩
  refine ⟨_, rfl, dl, xs, rfl, .inl ⟨SqL.of x1, fun t1 nt1 => ?_⟩⟩
  have g1 : Chg [] [] H6 (upd H6 t1 (.tup xs)) := Chg.mk0 nt1 _
  refine ⟨_, rfl, pl, ys, rfl, .inl ⟨SqL.of (g1.keep _ _ y1 (by intro h; cases h)), fun t2 nt2 => ?_⟩⟩
  have g2 := g1.trans (Chg.mk0 nt2 (.tup ys))
  refine ⟨(by show 2 ≤ sizeLine; decide), fun sp nsp => ?_⟩
  have g3 := g2.trans (Chg.mk0 nsp (.tup [.ref t1, .ref t2]))
  have hv : Ft (upd (upd (upd H6 t1 (.tup xs)) t2 (.tup ys)) sp (.tup [.ref t1, .ref t2])) (snap dur pend) (.ref sp) := by
    refine Ft.mkTup upd_same (.cons (Ft.mkTup (xs := xs) ?_ (x2.mono g3.tups)) (.cons (Ft.mkTup (xs := ys) ?_ (y2.mono g3.tups)) .nil))
    · exact (Chg.trans (fp := []) (Chg.mk0 (fp := []) nt2 (.tup ys)) (Chg.mk0 nsp (.tup [.ref t1, .ref t2]))).tups _ _ upd_same
    · exact (Chg.mk0 (fp := []) nsp (.tup [.ref t1, .ref t2])).tups _ _ upd_same
  generalize upd (upd (upd H6 t1 (.tup xs)) t2 (.tup ys)) sp (.tup [.ref t1, .ref t2]) = Hs at hv
  refine ⟨(by show 2 ≤ sizeLine; decide), fun tl ntl => ?_⟩
  have gt : Chg [] [] Hs (upd Hs tl (.lst [.bl false, .bl true])) := Chg.mk0 ntl _
  have hv1 := hv.mono gt.tups
  have htl : upd Hs tl (.lst [.bl false, .bl true]) tl = some (.lst [.bl false, .bl true]) := upd_same
  generalize upd Hs tl (.lst [.bl false, .bl true]) = Hb at hv1 htl
  refine ⟨tl, rfl, ⟨_, SqL.of htl⟩, ?_⟩
  let s2 : List (Option V) → L2.St := fun r => some (.ref a) :: some (.ref st) :: some (.int (1 + r1)) :: some (.int (1 + r2)) :: some (.ref dl) :: x5 :: some (.ref pl) :: r
  refine for_list (K := K) (a := tl) (xs := [.bl false, .bl true]) (fun i σ H' => ∃ x7 x8 x10 x11 x12 x13 x14 x15, σ = s2 [x7, x8, some (.ref sp), x10, x11, x12, x13, x14, x15, none, none] ∧ Chg [] [] Hb H')
    ⟨x7, x8, none, none, none, none, none, none, rfl, Chg.refl _ _⟩ (fun i σ H' _ ⟨_, _, _, _, _, _, _, _, _, g⟩ => SqL.of (g.keep _ _ htl (by intro h; cases h))) ?_ (fun σ H' _ => q _)
  rintro i y σ H7 hi ⟨x7, x8, x10, x11, x12, x13, x14, x15, rfl, g7⟩
  obtain ⟨t, rfl⟩ : ∃ t, y = .bl t := by
    have := List.mem_of_getElem? hi
    simp only [List.mem_cons, List.not_mem_nil, or_false] at this
    rcases this with h | h
    · exact ⟨_, h⟩
    · exact ⟨_, h⟩
  have hv7 := hv1.mono g7.tups
  have hdl : dur.length ≤ 4 := by omega
  have big := bound4 (t := t) G (by omega) lp hdl
  refine ⟨_, rfl, _, rfl, .ref sp, t, dur, pend, _, rfl, hv7, G, by omega, big, fun H8 du ndu L8 => ?_⟩
  generalize hall : allL (outs t dur pend dur.length) = all at *
  obtain ⟨acc, k1, k2, k3⟩ := L8
  have lk := k2.len
  rw [List.length_map] at lk
  have hv8 := hv7.mono k3.tups
  refine ⟨_, rfl, _, rfl, .ref sp, t, dur, pend, _, rfl, hv8, G, by omega, by rw [hall]; exact big, fun H9 rl nrl L9 => ?_⟩
  rw [hall] at L9
  obtain ⟨racc, m1, m2, m3⟩ := L9
  have k1' := m3.keep _ _ k1 (by intro h; cases h)
  refine ⟨_, rfl, du, rfl, ⟨acc, SqL.of k1'⟩, fun d nd => ?_⟩
  refine it_loop (n := acc.length) (fun j H10 => LAt d H9 ((all.take j).map fun p => wd p.1) H10) (LAt.start nd) (fun H10 L10 => ⟨⟨acc, SqL.of (L10.chg.keep _ _ k1' (by intro h; cases h)), Nat.le_refl _⟩, ?_⟩)
    (fun j H10 hj L10 => ⟨acc, acc[j], SqL.of (L10.chg.keep _ _ k1' (by intro h; cases h)), List.getElem?_eq_getElem hj⟩) ?_
  rotate_left
  · intro j y H10 H11 hj L10 yl
    obtain ⟨rfl, yy⟩ := yl
    have hy := yy acc (SqL.of (L10.chg.keep _ _ k1' (by intro h; cases h)))
    have hpj : all[j]? = some (all[j]'(by omega)) := List.getElem?_eq_getElem (by omega)
    generalize all[j]'(by omega) = pj at hpj
    obtain ⟨y', hy', fy⟩ := k2.get (i := j) (d := pr pj) (by rw [List.getElem?_map, hpj]; rfl)
    rw [hy] at hy'
    cases hy'
    obtain ⟨qa, ra, rb, cs', rfl, hq1, hra, hrb, frb⟩ := fy.ofPr
    have tt := (m3.trans L10.chg).tups
    refine ⟨rfl, yes (iteT ?_)⟩
    refine ⟨_, rfl, qa, _, 0, .ref ra, rfl, rfl, SqT.of (tt _ _ hq1), at_of (j := 0) rfl rfl, ?_⟩
    have := L10.push (e := wd pj.1) (y := .ref ra) nd (Chg.refl _ _) (Ft.mkWd (tt _ _ hra)) (by rw [List.length_map, List.length_take]; exact sl (by omega))
    rw [List.take_add_one, hpj, List.map_append]
    exact this
  rw [lk, List.take_length] at L10
  obtain ⟨dacc, u1, u2, u3⟩ := L10
  have m1' := u3.keep _ _ m1 (by intro h; cases h)
  have sh1 := shp_list (n := 1) (f := fun p : RC => wd p.1) (fun p => shp_wd _) all
  refine ⟨_, _, .lst (SqL.of m1') ((m2.mono u3.tups).dp K), .lst (SqL.of u1) (u2.dp K), sh1.ok (by decide), sh1.ok (by decide), ?_⟩
  rw [sh1.eq]
  refine ⟨_, rfl, iteF ?_⟩
  have k1b := u3.keep _ _ k1' (by intro h; cases h)
  have k2b := (k2.mono m3.tups).mono u3.tups
  have g10 : Chg [] [] Hb H10 := ((g7.trans k3).trans m3).trans u3
  clear m1' sh1 u1 u2 m1 m2
  -- the choices
  refine ⟨fun σ H' => ∃ x7, σ = s2 [x7, x8, some (.ref sp), some (.bl t), some (.ref du), x12, x13, x14, x15, none, none] ∧ Chg [] [] H10 H', ?_, ?_⟩
  · refine ⟨_, rfl, 1 + r1, rfl, by omega, by omega, ?_⟩
    refine for_range (lo := 0) (n := (1 + r1).toNat) (fun _ σ H' => ∃ x7, σ = s2 [x7, x8, some (.ref sp), some (.bl t), some (.ref du), x12, x13, x14, x15, none, none] ∧ Chg [] [] H10 H') ⟨x7, rfl, Chg.refl _ _⟩ ?_ (fun σ H' h => h)
    rintro j σ H11 hj ⟨x7, rfl, g11⟩
    have e0j : (0 : Int) + (j : Int) = (j : Int) := Int.zero_add _
    have hv11 := hv1.mono (g10.trans g11).tups
    refine ⟨_, rfl, _, rfl, _, rfl, .ref sp, j, t, dur, pend, _, by rw [e0j]; rfl, hv11, G, by omega, fun H12 c12 => ?_⟩
    refine ⟨_, rfl, _, rfl, _, rfl, .ref sp, j, t, dur, pend, _, by rw [e0j]; rfl, hv11.mono c12.tups, G, by omega, fun H13 l nl L13 => ?_⟩
    obtain ⟨a13, p1, p2, p3⟩ := L13
    refine ⟨l, a13, rfl, .inl (SqL.of p1), rfl, _, rfl, ?_⟩
    have e := p2.len
    rw [List.length_map] at e
    rw [e]
    exact iteNS rfl ⟨_, rfl, (g11.trans c12).trans p3⟩
  rintro σ H11 ⟨x7, rfl, g11⟩
  have hv11 := hv1.mono (g10.trans g11).tups
  have k1c := g11.keep _ _ k1b (by intro h; cases h)
  have k2c := k2b.mono g11.tups
  refine ⟨Nat.zero_le _, fun fl nfl im nim => ?_⟩
  have gf : Chg [] [] H11 (upd H11 fl (.lst [])) := Chg.mk0 nfl _
  have nim0 := gf.dom _ nim
  have nfi : fl ≠ im := fun z => by rw [z, upd_same] at nim; cases nim
  have gi := gf.trans (Chg.mk0 nim (DkN P w im []))
  have ndu : du ≠ fl := ne_of_none k1c nfl
  have ndi : du ≠ im := ne_of_none k1c nim0
  let Pv : Nat → L2.St → Hp → Prop := fun i σ H' => ∃ (kvs : List NRow) (x14 x15 : Option V) (facc : List V), σ = s2 [x7, x8, some (.ref sp), some (.bl t), some (.ref du), some (.ref fl), some (.ref im), x14, x15, none, none] ∧ H' du = some (.lst acc) ∧
    H' fl = some (.lst facc) ∧ FtAll H' ((dd (·.2) (all.take i)).map pr) facc ∧ H' im = some (DkN P w im kvs) ∧ KeysAt H' kvs ∧ kvs.map (fun p => (p.1, p.2.2)) = (dd (·.2) (all.take i)).map (fun p => (ct p.2, V.bl true)) ∧ Chg [] [] H11 H'
  have ldd : ∀ i, (dd (·.2) (all.take i)).length ≤ 1000000 := fun i => by
    have := dd_len (·.2) (all.take i)
    rw [List.length_take] at this
    omega
  refine ⟨Pv all.length, ?_, ?_⟩
  · refine ⟨_, rfl, du, rfl, ⟨acc, SqL.of (gi.keep _ _ k1c (by intro h; cases h))⟩, ?_⟩
    refine for_list (K := K) (a := du) (xs := acc) Pv ⟨[], x14, x15, [], rfl, gi.keep _ _ k1c (by intro h; cases h), (upd_ne nfi).trans upd_same, .nil, upd_same, (fun p hp => by cases hp), rfl, gi⟩ (fun i σ H' _ ⟨_, _, _, _, _, e, _⟩ => SqL.of e) ?_ ?_
    · rintro j y σ H12 hj ⟨kvs, x14, x15, facc, rfl, e1, e2, e3, e4, e5, e6, g12⟩
      have hja : j < acc.length := (List.getElem?_eq_some_iff.mp hj).1
      have hpj : all[j]? = some (all[j]'(by omega)) := List.getElem?_eq_getElem (by omega)
      generalize all[j]'(by omega) = pj at hpj
      obtain ⟨y', hy', fy⟩ := k2c.get (i := j) (d := pr pj) (by rw [List.getElem?_map, hpj]; rfl)
      rw [hj] at hy'
      cases hy'
      obtain ⟨qa, ra, rb, cs', rfl, hq1, hra, hrb, frb⟩ := fy.ofPr
      have hrow : RowOf (outs t dur pend dur.length) pj := allL_row t dur pend dur.length pj (by rw [hall]; exact List.mem_of_getElem? hpj)
      have hlo : (outs t dur pend dur.length).length = dur.length := by unfold outs; rw [List.length_map, List.length_range]
      refine ⟨qa, _, rfl, SqT.of (g12.tups _ _ hq1), rfl, _, _, rfl, _, _, rfl, rfl, ?_⟩
      refine ⟨_, rfl, _, rfl, _, rfl, .ref sp, .ref ra, t, dur, pend, _, pj.1, rfl, hv11.mono g12.tups, G, Ft.mkWd (g12.tups _ _ hra), by rw [hrow.1, hlo], by omega, fun i c hi => ?_, fun v' H13 c13 f13 => ?_⟩
      · have hil : i < dur.length := by
          have := (List.getElem?_eq_some_iff.mp hi).1
          rw [hrow.1, hlo] at this
          exact this
        refine hrow.2.2 i c _ hi ?_
        unfold outs
        rw [List.getElem?_map, List.getElem?_range hil]; rfl
      rw [← hrow.2.1] at f13
      have g13 := g12.trans c13
      have fc : Ft H13 (ct pj.2) (.ref rb) := Ft.mkTup (g13.tups _ _ hrb) (frb.mono g13.tups)
      refine ⟨_, rfl, _, _, f13.dp K, fc.dp K, (shp_ct _).ok (by decide), (shp_ct _).ok (by decide), ?_⟩
      rw [(shp_ct pj.2).eq]
      refine ⟨_, rfl, iteF ?_⟩
      have e1' := c13.keep _ _ e1 (by intro h; cases h)
      have e2' := c13.keep _ _ e2 (by intro h; cases h)
      have e3' := e3.mono c13.tups
      have e4' := c13.keep _ _ e4 (by intro h; cases h)
      have e5' := e5.mono c13.tups
      have step : dd (·.2) (all.take (j + 1)) = ddS (·.2) (dd (·.2) (all.take j)) pj := by
        rw [List.take_add_one, hpj]
        exact dd_snoc _ _ _
      have hdep : (nk (ct pj.2)).depth ≤ 8 := Nat.le_trans (nk_depth_ct _) (by decide)
      have lkv : kvs.length ≤ 1000000 := by
        have h1 := congrArg List.length e6
        rw [List.length_map, List.length_map] at h1
        have := ldd j
        omega
      have lf := e3.len
      rw [List.length_map] at lf
      have lf2 := ldd j
      refine ⟨_, rfl, _, rfl, _, ⟨im, rb, ct pj.2, kvs, rfl, rfl, fc, hdep, e4', e5', rfl⟩, ?_⟩
      cases hz : lkN kvs (nk (ct pj.2)) with
      | some z =>
        refine ⟨_, rfl, iteF ?_⟩
        obtain ⟨x, hx, ex⟩ := (lkN_map e6 (nk (ct pj.2))).mp (by rw [hz]; rfl)
        have this : dd (·.2) (all.take (j + 1)) = dd (·.2) (all.take j) := by
          rw [step]
          unfold ddS
          rw [if_pos (List.mem_map.mpr ⟨x, hx, nk_ct_inj ex⟩)]
        exact ⟨kvs, _, _, facc, rfl, e1', e2', by rw [this]; exact e3', e4', e5', by rw [this]; exact e6, g13⟩
      | none =>
        refine ⟨_, rfl, iteT ?_⟩
        have hnin : ¬ pj.2 ∈ (dd (·.2) (all.take j)).map (·.2) := fun hm => by
          obtain ⟨x, hx, ex⟩ := List.mem_map.mp hm
          have := (lkN_map e6 (nk (ct pj.2))).mpr ⟨x, hx, by rw [show x.2 = pj.2 from ex]⟩
          rw [hz] at this
          cases this
        have this : dd (·.2) (all.take (j + 1)) = dd (·.2) (all.take j) ++ [pj] := by
          rw [step]
          unfold ddS
          rw [if_neg hnin]
        refine ⟨_, rfl, _, rfl, im, rb, ct pj.2, kvs, rfl, rfl, fc, hdep, e4', e5', sl (by omega), hz, ?_⟩
        have tu := tups_own (o' := DkN P w im (kvs ++ [(ct pj.2, rb, .bl true)])) e4' (fun xs z => by cases z)
        have g14 : Chg [] [] H11 (upd H13 im (DkN P w im (kvs ++ [(ct pj.2, rb, .bl true)]))) := chg_own (H5 := H11) nim0 g13 e4' fun xs z => by cases z
        have e1b := (upd_ne (o := DkN P w im (kvs ++ [(ct pj.2, rb, .bl true)])) ndi).trans e1'
        have e2b := (upd_ne (o := DkN P w im (kvs ++ [(ct pj.2, rb, .bl true)])) nfi).trans e2'
        have e3b := e3'.mono tu
        have e4b : upd H13 im (DkN P w im (kvs ++ [(ct pj.2, rb, .bl true)])) im = some (DkN P w im (kvs ++ [(ct pj.2, rb, .bl true)])) := upd_same
        have e5b := (e5'.add (p := (ct pj.2, rb, .bl true)) fc hdep).mono tu
        have hra' : upd H13 im (DkN P w im (kvs ++ [(ct pj.2, rb, .bl true)])) ra = some (.tup (pj.1.map V.int)) := tu _ _ (g13.tups _ _ hra)
        have fcb := fc.mono tu
        refine ⟨_, rfl, .inl ⟨rfl, _, SqL.of e2b⟩, _, rfl, _, rfl, (by show 2 ≤ sizeLine; decide), fun u nu => ?_⟩
        have gu : Chg [] [] (upd H13 im (DkN P w im (kvs ++ [(ct pj.2, rb, .bl true)]))) (upd (upd H13 im (DkN P w im (kvs ++ [(ct pj.2, rb, .bl true)]))) u (.tup [.ref ra, .ref rb])) := Chg.mk0 nu _
        have e2c := gu.keep _ _ e2b (by intro h; cases h)
        have tu2 := tups_own (o' := .lst (facc ++ [.ref u])) e2c (fun xs z => by cases z)
        refine ⟨fl, facc, _, rfl, rfl, e2c, sl (by omega), kvs ++ [(ct pj.2, rb, .bl true)], _, _, facc ++ [.ref u], rfl, ?_, upd_same, ?_, ?_, ?_, ?_, ?_⟩
        · exact (upd_ne ndu).trans (gu.keep _ _ e1b (by intro h; cases h))
        · rw [this, List.map_append]
          refine ((e3b.mono gu.tups).mono tu2).app (.cons ?_ .nil)
          exact (Ft.mkTup (xs := [.ref ra, .ref rb]) upd_same (.cons (Ft.mkWd (gu.tups _ _ hra')) (.cons (fcb.mono gu.tups) .nil))).mono tu2
        · exact (upd_ne nfi.symm).trans (gu.keep _ _ e4b (by intro h; cases h))
        · exact (e5b.mono gu.tups).mono tu2
        · rw [this, List.map_append, List.map_append, e6]; rfl
        · exact chg_own (H5 := H11) nfl (g14.trans gu) e2c fun xs z => by cases z
    · rintro σ H' h
      rw [lk] at h
      exact h
  rintro σ H12 ⟨kvs, x14, x15, facc, rfl, e1, e2, e3, e4, e5, e6, g12⟩
  rw [List.take_length, ← hall, firsts_all] at e3
  refine ⟨_, rfl, _, rfl, .ref sp, t, dur, pend, _, rfl, hv11.mono g12.tups, G, by omega, by rw [hall]; exact big, fun H13 l nl L13 => ?_⟩
  obtain ⟨a13, p1, p2, p3⟩ := L13
  have sh3 := shp_list (n := 3) (f := pr) shp_pr (firstsL (outs t dur pend dur.length))
  refine ⟨_, rfl, _, _, .lst (SqL.of p1) (p2.dp K), .lst (SqL.of (p3.keep _ _ e2 (by intro h; cases h))) ((e3.mono p3.tups).dp K), sh3.ok (by decide), sh3.ok (by decide), ?_⟩
  rw [sh3.eq]
  exact ⟨_, rfl, iteF ⟨_, _, _, _, _, _, _, _, rfl, ((g10.trans g11).trans g12).trans p3⟩⟩
end
end S5
namespace S5
open PySem L2
theorem all_mk {P : Program} {w : World} {K : PySem.W.Frag} {h : Heap} {mg : Str → Option Value} {f1 f2 f3 f4 f5 f6 f7 f8 f9 f10 f11  fa : Addr} {od1 an1 od2 an2 od3 an3 od4 an4 od5 an5 od6 an6 od7 an7 od8 an8 od9 an9 od10 an10 od11 an11 : Option Addr} {sl1 sl2 sl3 sl4 sl5 sl6 sl7 sl8 sl9 sl10 sl11 : Array (Option Value)} {oc1 kV1 dc1 pm1 cd1 ct1 oc2 kV2 dc2 pm2 cd2 ct2 oc3 kV3 dc3 pm3 cd3 ct3 oc4 kV4 dc4 pm4 cd4 ct4 oc5 kV5 dc5 pm5 cd5 ct5 oc6 kV6 dc6 pm6 cd6 ct6 oc7 kV7 dc7 pm7 cd7 ct7 oc8 kV8 dc8 pm8 cd8 ct8 oc9 kV9 dc9 pm9 cd9 ct9 oc10 kV10 dc10 pm10 cd10 ct10 oc11 kV11 dc11 pm11 cd11 ct11 : Value}  (X : K.In h) (G : h.Ns mainGlobals mg) (hfa : mg "law" = some (.ref fa))
    (a1 : PySem.W.nsIn K mainGlobals "choices" = some (some (.ref f1)))
    (l1 : K.lookup f1 = some ⟨oc1, od1, .func (PySem.W.fnOf "choices" "choices" (defArgs s_choices) (defBody s_choices) (defScope s_choices) .none kV1 dc1 pm1 an1 cd1 ct1), sl1⟩)
    (c1 : PySem.W.codeIn K cd1 "choices" = true)
    (k1 : PySem.W.keepIn K (.ref f1) = true)
    (a2 : PySem.W.nsIn K mainGlobals "image" = some (some (.ref f2)))
    (l2 : K.lookup f2 = some ⟨oc2, od2, .func (PySem.W.fnOf "image" "image" (defArgs s_image) (defBody s_image) (defScope s_image) .none kV2 dc2 pm2 an2 cd2 ct2), sl2⟩)
    (c2 : PySem.W.codeIn K cd2 "image" = true)
    (k2 : PySem.W.keepIn K (.ref f2) = true)
    (a3 : PySem.W.nsIn K mainGlobals "rows" = some (some (.ref f3)))
    (l3 : K.lookup f3 = some ⟨oc3, od3, .func (PySem.W.fnOf "rows" "rows" (defArgs s_rows) (defBody s_rows) (defScope s_rows) .none kV3 dc3 pm3 an3 cd3 ct3), sl3⟩)
    (c3 : PySem.W.codeIn K cd3 "rows" = true)
    (k3 : PySem.W.keepIn K (.ref f3) = true)
    (a4 : PySem.W.nsIn K mainGlobals "distinct" = some (some (.ref f4)))
    (l4 : K.lookup f4 = some ⟨oc4, od4, .func (PySem.W.fnOf "distinct" "distinct" (defArgs s_distinct) (defBody s_distinct) (defScope s_distinct) .none kV4 dc4 pm4 an4 cd4 ct4), sl4⟩)
    (c4 : PySem.W.codeIn K cd4 "distinct" = true)
    (k4 : PySem.W.keepIn K (.ref f4) = true)
    (a5 : PySem.W.nsIn K mainGlobals "first_choices" = some (some (.ref f5)))
    (l5 : K.lookup f5 = some ⟨oc5, od5, .func (PySem.W.fnOf "first_choices" "first_choices" (defArgs s_first_choices) (defBody s_first_choices) (defScope s_first_choices) .none kV5 dc5 pm5 an5 cd5 ct5), sl5⟩)
    (c5 : PySem.W.codeIn K cd5 "first_choices" = true)
    (k5 : PySem.W.keepIn K (.ref f5) = true)
    (a6 : PySem.W.nsIn K mainGlobals "outcomes" = some (some (.ref f6)))
    (l6 : K.lookup f6 = some ⟨oc6, od6, .func (PySem.W.fnOf "outcomes" "outcomes" (defArgs s_outcomes) (defBody s_outcomes) (defScope s_outcomes) .none kV6 dc6 pm6 an6 cd6 ct6), sl6⟩)
    (c6 : PySem.W.codeIn K cd6 "outcomes" = true)
    (k6 : PySem.W.keepIn K (.ref f6) = true)
    (a7 : PySem.W.nsIn K mainGlobals "_law_state" = some (some (.ref f7)))
    (l7 : K.lookup f7 = some ⟨oc7, od7, .func (PySem.W.fnOf "_law_state" "_law_state" (defArgs s__law_state) (defBody s__law_state) (defScope s__law_state) .none kV7 dc7 pm7 an7 cd7 ct7), sl7⟩)
    (c7 : PySem.W.codeIn K cd7 "_law_state" = true)
    (k7 : PySem.W.keepIn K (.ref f7) = true)
    (a8 : PySem.W.nsIn K mainGlobals "_law_draw" = some (some (.ref f8)))
    (l8 : K.lookup f8 = some ⟨oc8, od8, .func (PySem.W.fnOf "_law_draw" "_law_draw" (defArgs s__law_draw) (defBody s__law_draw) (defScope s__law_draw) .none kV8 dc8 pm8 an8 cd8 ct8), sl8⟩)
    (c8 : PySem.W.codeIn K cd8 "_law_draw" = true)
    (k8 : PySem.W.keepIn K (.ref f8) = true)
    (a9 : PySem.W.nsIn K mainGlobals "_law_left" = some (some (.ref f9)))
    (l9 : K.lookup f9 = some ⟨oc9, od9, .func (PySem.W.fnOf "_law_left" "_law_left" (defArgs s__law_left) (defBody s__law_left) (defScope s__law_left) .none kV9 dc9 pm9 an9 cd9 ct9), sl9⟩)
    (c9 : PySem.W.codeIn K cd9 "_law_left" = true)
    (k9 : PySem.W.keepIn K (.ref f9) = true)
    (a10 : PySem.W.nsIn K mainGlobals "_law_all" = some (some (.ref f10)))
    (l10 : K.lookup f10 = some ⟨oc10, od10, .func (PySem.W.fnOf "_law_all" "_law_all" (defArgs s__law_all) (defBody s__law_all) (defScope s__law_all) .none kV10 dc10 pm10 an10 cd10 ct10), sl10⟩)
    (c10 : PySem.W.codeIn K cd10 "_law_all" = true)
    (k10 : PySem.W.keepIn K (.ref f10) = true)
    (a11 : PySem.W.nsIn K mainGlobals "law" = some (some (.ref f11)))
    (l11 : K.lookup f11 = some ⟨oc11, od11, .func (PySem.W.fnOf "law" "law" (defArgs s_law) (defBody s_law) (defScope s_law) .none kV11 dc11 pm11 an11 cd11 ct11), sl11⟩)
    (c11 : PySem.W.codeIn K cd11 "law" = true)
    (k11 : PySem.W.keepIn K (.ref f11) = true)
    (zlen : PySem.W.nsIn K mainGlobals "len" = some none)
    (zint : PySem.W.nsIn K mainGlobals "int" = some none)
    (zabs : PySem.W.nsIn K mainGlobals "abs" = some none)
    (zrange : PySem.W.nsIn K mainGlobals "range" = some none)
    (ztuple : PySem.W.nsIn K mainGlobals "tuple" = some none)
    (zenumerate : PySem.W.nsIn K mainGlobals "enumerate" = some none)
    (zzip : PySem.W.nsIn K mainGlobals "zip" = some none) :
    ∃ fd : FuncData, (∀ (s : Shared) (v : Value), BindsTo s fd ⟨[v], []⟩ [("script", v)]) ∧ ∀ base : Heap, K.In base → base.Ns mainGlobals mg → FnOk P w K mg base CX0 5 fa fd ["script"] (spLaw K) := by
  have e := hfa.symm.trans (PySem.W.mg_of X G a11)
  cases e
  have F1 := fun_mk (st := s_choices) l1 c1 k1
  have b1 := F1.binds (ps := ["snapshot", "sector", "tears"]) fun _ _ _ _ _ _ us hl => match us, hl with | [_, _, _], _ => rfl
  have F2 := fun_mk (st := s_image) l2 c2 k2
  have b2 := F2.binds (ps := ["snapshot", "tears", "row"]) fun _ _ _ _ _ _ us hl => match us, hl with | [_, _, _], _ => rfl
  have F3 := fun_mk (st := s_rows) l3 c3 k3
  have b3 := F3.binds (ps := ["snapshot", "tears"]) fun _ _ _ _ _ _ us hl => match us, hl with | [_, _], _ => rfl
  have F4 := fun_mk (st := s_distinct) l4 c4 k4
  have b4 := F4.binds (ps := ["snapshot", "tears"]) fun _ _ _ _ _ _ us hl => match us, hl with | [_, _], _ => rfl
  have F5 := fun_mk (st := s_first_choices) l5 c5 k5
  have b5 := F5.binds (ps := ["snapshot", "sector", "tears"]) fun _ _ _ _ _ _ us hl => match us, hl with | [_, _, _], _ => rfl
  have F6 := fun_mk (st := s_outcomes) l6 c6 k6
  have b6 := F6.binds (ps := ["snapshot", "sector", "tears"]) fun _ _ _ _ _ _ us hl => match us, hl with | [_, _, _], _ => rfl
  have F7 := fun_mk (st := s__law_state) l7 c7 k7
  have b7 := F7.binds (ps := ["script"]) fun _ _ _ _ _ _ us hl => match us, hl with | [_], _ => rfl
  have F8 := fun_mk (st := s__law_draw) l8 c8 k8
  have b8 := F8.binds (ps := ["state", "many"]) fun _ _ _ _ _ _ us hl => match us, hl with | [_, _], _ => rfl
  have F9 := fun_mk (st := s__law_left) l9 c9 k9
  have b9 := F9.binds (ps := ["snapshot", "sector", "tears"]) fun _ _ _ _ _ _ us hl => match us, hl with | [_, _, _], _ => rfl
  have F10 := fun_mk (st := s__law_all) l10 c10 k10
  have b10 := F10.binds (ps := ["snapshot", "tears"]) fun _ _ _ _ _ _ us hl => match us, hl with | [_, _], _ => rfl
  have F11 := fun_mk (st := s_law) l11 c11 k11
  have b11 := F11.binds (ps := ["script"]) fun _ _ _ _ _ _ us hl => match us, hl with | [_], _ => rfl
  have O : Ok P K mg { fchoices := f1, dchoices := PySem.W.fnOf "choices" "choices" (defArgs s_choices) (defBody s_choices) (defScope s_choices) .none kV1 dc1 pm1 an1 cd1 ct1, fimage := f2, dimage := PySem.W.fnOf "image" "image" (defArgs s_image) (defBody s_image) (defScope s_image) .none kV2 dc2 pm2 an2 cd2 ct2, frows := f3, drows := PySem.W.fnOf "rows" "rows" (defArgs s_rows) (defBody s_rows) (defScope s_rows) .none kV3 dc3 pm3 an3 cd3 ct3, fdistinct := f4, ddistinct := PySem.W.fnOf "distinct" "distinct" (defArgs s_distinct) (defBody s_distinct) (defScope s_distinct) .none kV4 dc4 pm4 an4 cd4 ct4, ffirst_choices := f5, dfirst_choices := PySem.W.fnOf "first_choices" "first_choices" (defArgs s_first_choices) (defBody s_first_choices) (defScope s_first_choices) .none kV5 dc5 pm5 an5 cd5 ct5, foutcomes := f6, doutcomes := PySem.W.fnOf "outcomes" "outcomes" (defArgs s_outcomes) (defBody s_outcomes) (defScope s_outcomes) .none kV6 dc6 pm6 an6 cd6 ct6, f_law_state := f7, d_law_state := PySem.W.fnOf "_law_state" "_law_state" (defArgs s__law_state) (defBody s__law_state) (defScope s__law_state) .none kV7 dc7 pm7 an7 cd7 ct7, f_law_draw := f8, d_law_draw := PySem.W.fnOf "_law_draw" "_law_draw" (defArgs s__law_draw) (defBody s__law_draw) (defScope s__law_draw) .none kV8 dc8 pm8 an8 cd8 ct8, f_law_left := f9, d_law_left := PySem.W.fnOf "_law_left" "_law_left" (defArgs s__law_left) (defBody s__law_left) (defScope s__law_left) .none kV9 dc9 pm9 an9 cd9 ct9, f_law_all := f10, d_law_all := PySem.W.fnOf "_law_all" "_law_all" (defArgs s__law_all) (defBody s__law_all) (defScope s__law_all) .none kV10 dc10 pm10 an10 cd10 ct10, flaw := f11, dlaw := PySem.W.fnOf "law" "law" (defArgs s_law) (defBody s_law) (defScope s_law) .none kV11 dc11 pm11 an11 cd11 ct11 } :=
    { Fchoices := F1,
      bchoices := b1,
      mchoices := PySem.W.mg_of X G a1,
      Fimage := F2,
      bimage := b2,
      mimage := PySem.W.mg_of X G a2,
      Frows := F3,
      brows := b3,
      mrows := PySem.W.mg_of X G a3,
      Fdistinct := F4,
      bdistinct := b4,
      mdistinct := PySem.W.mg_of X G a4,
      Ffirst_choices := F5,
      bfirst_choices := b5,
      mfirst_choices := PySem.W.mg_of X G a5,
      Foutcomes := F6,
      boutcomes := b6,
      moutcomes := PySem.W.mg_of X G a6,
      F_law_state := F7,
      b_law_state := b7,
      m_law_state := PySem.W.mg_of X G a7,
      F_law_draw := F8,
      b_law_draw := b8,
      m_law_draw := PySem.W.mg_of X G a8,
      F_law_left := F9,
      b_law_left := b9,
      m_law_left := PySem.W.mg_of X G a9,
      F_law_all := F10,
      b_law_all := b10,
      m_law_all := PySem.W.mg_of X G a10,
      Flaw := F11,
      blaw := b11,
      mlaw := PySem.W.mg_of X G a11,
      zlen := PySem.W.mg_none_of X G zlen,
      zint := PySem.W.mg_none_of X G zint,
      zabs := PySem.W.mg_none_of X G zabs,
      zrange := PySem.W.mg_none_of X G zrange,
      ztuple := PySem.W.mg_none_of X G ztuple,
      zenumerate := PySem.W.mg_none_of X G zenumerate,
      zzip := PySem.W.mg_none_of X G zzip }
  exact ⟨PySem.W.fnOf "law" "law" (defArgs s_law) (defBody s_law) (defScope s_law) .none kV11 dc11 pm11 an11 cd11 ct11, fun s v => .of_eq rfl, fun base _ _ => ok_law O⟩
theorem walk {l : PySem.W.OpenLaw} {q : Program} {loose : List Str} {XP : (Str → Option Value) → Heap → Prop} {YP : World → Heap → Prop} {d : DefRec} {K : Params → PySem.W.Frag} (hn : l.most = some 63) (hdf : d.params.defaults = [])
    (hY : ∀ (w : World) (h : Heap), YP w h → (K w.params).In h)
    (F : ∀ (w : World) (mg : Str → Option Value) (fa : Addr) (h : Heap), (K w.params).In h → h.Ns mainGlobals mg → mg d.name = some (.ref fa) →
      ∃ fd : FuncData, (∀ (s : Shared) (u : Value), BindsTo s fd ⟨[u], []⟩ [("script", u)]) ∧ ∀ base : Heap, (K w.params).In base → base.Ns mainGlobals mg → FnOk l.prog w (K w.params) mg base CX0 5 fa fd ["script"] (spLaw (K w.params))) :
    PySem.W.WalkO q loose XP YP l.row.toRowW d [] (fun f vs => PySem.call f vs) :=
  L2.walk_of (n := 63) (k := 5) (x := "script") (CX := fun _ => CX0) (sp := fun w => spLaw (K w.params)) hn (by decide) hdf ⟨rfl, by decide, by decide⟩ hY F (fun _ _ a ns hl _ hS => ⟨a, ns, rfl, hS, hl, fun _ => rfl⟩) fun _ _ _ _ _ z => z
end S5
open PySem PySem.W PyProof.Rows
set_option maxRecDepth 100000 in
set_option maxHeartbeats 0 in
theorem PySem.Challenge.cw_salvor_k05_images_holds : PySem.Challenge.rw_salvor_k05_images.Holds := by
  w_on; o_law; k_head; (case hw => w_witness2)
  k_fill
  refine S5.walk (l := PySem.Challenge.rw_salvor_k05_images) rfl rfl (fun w h Y => PySem.W.kIn_of Y) ?F
  case F =>
    intro w mg fa h KX G hmg
    refine' S5.all_mk KX G hmg ?a1 ?l1 ?c1 ?k1 ?a2 ?l2 ?c2 ?k2 ?a3 ?l3 ?c3 ?k3 ?a4 ?l4 ?c4 ?k4 ?a5 ?l5 ?c5 ?k5 ?a6 ?l6 ?c6 ?k6 ?a7 ?l7 ?c7 ?k7 ?a8 ?l8 ?c8 ?k8 ?a9 ?l9 ?c9 ?k9 ?a10 ?l10 ?c10 ?k10 ?a11 ?l11 ?c11 ?k11 ?zlen ?zint ?zabs ?zrange ?ztuple ?zenumerate ?zzip
    (case a1 => k_is)
    (case l1 => k_is)
    (case c1 => k_is)
    (case k1 => k_is)
    (case a2 => k_is)
    (case l2 => k_is)
    (case c2 => k_is)
    (case k2 => k_is)
    (case a3 => k_is)
    (case l3 => k_is)
    (case c3 => k_is)
    (case k3 => k_is)
    (case a4 => k_is)
    (case l4 => k_is)
    (case c4 => k_is)
    (case k4 => k_is)
    (case a5 => k_is)
    (case l5 => k_is)
    (case c5 => k_is)
    (case k5 => k_is)
    (case a6 => k_is)
    (case l6 => k_is)
    (case c6 => k_is)
    (case k6 => k_is)
    (case a7 => k_is)
    (case l7 => k_is)
    (case c7 => k_is)
    (case k7 => k_is)
    (case a8 => k_is)
    (case l8 => k_is)
    (case c8 => k_is)
    (case k8 => k_is)
    (case a9 => k_is)
    (case l9 => k_is)
    (case c9 => k_is)
    (case k9 => k_is)
    (case a10 => k_is)
    (case l10 => k_is)
    (case c10 => k_is)
    (case k10 => k_is)
    (case a11 => k_is)
    (case l11 => k_is)
    (case c11 => k_is)
    (case k11 => k_is)
    (case zlen => k_is)
    (case zint => k_is)
    (case zabs => k_is)
    (case zrange => k_is)
    (case ztuple => k_is)
    (case zenumerate => k_is)
    (case zzip => k_is)
