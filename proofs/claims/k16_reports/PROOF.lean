import PyProof.Rows.All
import Wide.All
import OpenK.AllK
import Wide.FinOn
import HandS.ForMost
import HandS.IsInst
import HandS.Conv
import HandS.Codes
import HandS.Flow
import HandS.TupMul
import HandS.TupAny
import HandS.FStr
import PySem.Challenge.RW_salvor_k16_reports
set_option Elab.async false
set_option maxRecDepth 100000
set_option maxHeartbeats 4000000
set_option linter.unusedVariables false
namespace S16
open PySem L2
def top (i : Nat) : Stmt := PySem.Challenge.pw_salvor_k16_reports.main.body.getD i (.Pass ⟨0, 0, 0, 0⟩)
abbrev s_report : Stmt := top 1
abbrev s_state_lines : Stmt := top 2
abbrev s_state_line : Stmt := top 3
abbrev s_numbers : Stmt := top 4
abbrev s__law_state : Stmt := top 6
abbrev s__law_draw : Stmt := top 7
abbrev s__law_row : Stmt := top 8
abbrev s__law_words : Stmt := top 9
abbrev s__law_state_line : Stmt := top 10
abbrev s_law : Stmt := top 11
end S16
namespace S16
open PySem L2
/-- where each def stands -/
structure Defs where
  freport : Addr
  dreport : FuncData
  fstate_lines : Addr
  dstate_lines : FuncData
  fstate_line : Addr
  dstate_line : FuncData
  fnumbers : Addr
  dnumbers : FuncData
  f_law_state : Addr
  d_law_state : FuncData
  f_law_draw : Addr
  d_law_draw : FuncData
  f_law_row : Addr
  d_law_row : FuncData
  f_law_words : Addr
  d_law_words : FuncData
  f_law_state_line : Addr
  d_law_state_line : FuncData
  flaw : Addr
  dlaw : FuncData
/-- what the top has written -/
structure Ok (P : Program) (K : PySem.W.Frag) (mg : Str → Option Value) (D : Defs) : Prop where
  Freport : Fun K "report" "report" s_report D.freport D.dreport
  breport : Binds K D.dreport ["verdict"] []
  mreport : mg "report" = some (.ref D.freport)
  Fstate_lines : Fun K "state_lines" "state_lines" s_state_lines D.fstate_lines D.dstate_lines
  bstate_lines : Binds K D.dstate_lines ["states"] []
  mstate_lines : mg "state_lines" = some (.ref D.fstate_lines)
  Fstate_line : Fun K "state_line" "state_line" s_state_line D.fstate_line D.dstate_line
  bstate_line : Binds K D.dstate_line ["state"] []
  mstate_line : mg "state_line" = some (.ref D.fstate_line)
  Fnumbers : Fun K "numbers" "numbers" s_numbers D.fnumbers D.dnumbers
  bnumbers : Binds K D.dnumbers ["words"] []
  mnumbers : mg "numbers" = some (.ref D.fnumbers)
  F_law_state : Fun K "_law_state" "_law_state" s__law_state D.f_law_state D.d_law_state
  b_law_state : Binds K D.d_law_state ["script"] []
  m_law_state : mg "_law_state" = some (.ref D.f_law_state)
  F_law_draw : Fun K "_law_draw" "_law_draw" s__law_draw D.f_law_draw D.d_law_draw
  b_law_draw : Binds K D.d_law_draw ["state", "many"] []
  m_law_draw : mg "_law_draw" = some (.ref D.f_law_draw)
  F_law_row : Fun K "_law_row" "_law_row" s__law_row D.f_law_row D.d_law_row
  b_law_row : Binds K D.d_law_row ["state", "many", "most"] []
  m_law_row : mg "_law_row" = some (.ref D.f_law_row)
  F_law_words : Fun K "_law_words" "_law_words" s__law_words D.f_law_words D.d_law_words
  b_law_words : Binds K D.d_law_words ["row"] []
  m_law_words : mg "_law_words" = some (.ref D.f_law_words)
  F_law_state_line : Fun K "_law_state_line" "_law_state_line" s__law_state_line D.f_law_state_line D.d_law_state_line
  b_law_state_line : Binds K D.d_law_state_line ["one"] []
  m_law_state_line : mg "_law_state_line" = some (.ref D.f_law_state_line)
  Flaw : Fun K "law" "law" s_law D.flaw D.dlaw
  blaw : Binds K D.dlaw ["script"] []
  mlaw : mg "law" = some (.ref D.flaw)
  zlen : mg "len" = none
  zint : mg "int" = none
  zabs : mg "abs" = none
  zrange : mg "range" = none
  zlist : mg "list" = none
  ztuple : mg "tuple" = none
  zstr : mg "str" = none
end S16
namespace S16
open PySem L2
theorem new_same {H : Hp} {p : Addr} (h : H p = none) (o : HO) : Same H (upd H p o) := fun b u q => by rw [upd_ne (ne_of_none q h)]; exact q
theorem yes {σ : L2.St} {H : Hp} {Q : Bool → Hp → Prop} (h : Q true H) : tYes σ H Q := h
theorem small5 {n : Nat} (h : n ≤ 100000) : n < sizeLine := by rw [sizeLine_eq]; omega
/-- a list of data, one by one -/
def Each {α : Type} (R : Hp → α → V → Prop) (H : Hp) : List α → List V → Prop
  | [], [] => True
  | a :: r, x :: xs => R H a x ∧ Each R H r xs
  | _, _ => False
section
variable {α : Type} {R : Hp → α → V → Prop} {H H' : Hp}
theorem Each.mono (m : ∀ a v, R H a v → R H' a v) : ∀ {es : List α} {xs : List V}, Each R H es xs → Each R H' es xs
  | [], [], _ => trivial
  | _ :: _, _ :: _, ⟨h1, h2⟩ => ⟨m _ _ h1, Each.mono m h2⟩
  | [], _ :: _, h => h.elim
  | _ :: _, [], h => h.elim
theorem Each.len : ∀ {es : List α} {xs : List V}, Each R H es xs → xs.length = es.length
  | [], [], _ => rfl
  | _ :: _, _ :: _, ⟨_, h2⟩ => congrArg (· + 1) (Each.len h2)
  | [], _ :: _, h => h.elim
  | _ :: _, [], h => h.elim
theorem Each.get : ∀ {es : List α} {xs : List V} {i : Nat} {x : V}, Each R H es xs → xs[i]? = some x → ∃ e, es[i]? = some e ∧ R H e x
  | [], [], i, x, _, e => by cases i <;> cases e
  | a :: _, y :: _, 0, x, ⟨h1, _⟩, e => ⟨a, rfl, by cases e; exact h1⟩
  | _ :: _, _ :: _, i + 1, x, ⟨_, h2⟩, e => Each.get (i := i) h2 e
  | [], _ :: _, _, _, h, _ => h.elim
  | _ :: _, [], _, _, h, _ => h.elim
theorem Each.app : ∀ {es fs : List α} {xs ys : List V}, Each R H es xs → Each R H fs ys → Each R H (es ++ fs) (xs ++ ys)
  | [], _, [], _, _, h => h
  | _ :: _, _, _ :: _, _, ⟨h1, h2⟩, h => ⟨h1, Each.app h2 h⟩
  | [], _, _ :: _, _, h, _ => h.elim
  | _ :: _, _, [], _, h, _ => h.elim
end
theorem Each.imp {α : Type} {R R' : Hp → α → V → Prop} {H H' : Hp} (m : ∀ a v, R H a v → R' H' a v) : ∀ {es : List α} {xs : List V}, Each R H es xs → Each R' H' es xs
  | [], [], _ => trivial
  | _ :: _, _ :: _, ⟨h1, h2⟩ => ⟨m _ _ h1, Each.imp m h2⟩
  | [], _ :: _, h => h.elim
  | _ :: _, [], h => h.elim
end S16
namespace S16
open PySem L2
/-! ### the same rules with the written part named -/
def rTupOf (K : PySem.W.Frag) : List V → Hp → VK → Prop := fun xs H Q => ∃ p ys, xs = [.ref p] ∧ ((SqL K H p ys ∧ ∀ l, H l = none → Q (.ref l) (upd H l (.tup ys))) ∨ (SqT K H p ys ∧ Q (.ref p) H))
def rLstOf (K : PySem.W.Frag) : List V → Hp → VK → Prop := fun xs H Q => ∃ p ys, xs = [.ref p] ∧ (SqL K H p ys ∨ SqT K H p ys) ∧ ∀ l, H l = none → Q (.ref l) (upd H l (.lst ys))
def rLenQ (K : PySem.W.Frag) : List V → Hp → VK → Prop := fun xs H Q => ∃ p ys, xs = [.ref p] ∧ (SqL K H p ys ∨ SqT K H p ys) ∧ Q (.int ys.length) H
section
variable {X : Cx}
theorem call_tupK : CallR X (.type "tuple") (rTupOf X.K) := call_tuple_of
theorem call_lstK : CallR X (.type "list") (rLstOf X.K) := call_list_of
theorem call_lenK : CallR X (.builtin "len") (rLenQ X.K) := call_len_seq
theorem pe_fldK {K : PySem.W.Frag} {e : Expr} {f : Str} {pos : Pos} {ta : TE} (ha : PE X e ta) (hb : attributeBase e f X.env (eval e X.env) = eval e X.env) (hk : X.K = K := by rfl) : PE X (.Attribute e f pos) (tFld K ta f) := hk ▸ pe_fld ha hb
theorem pi_listK {K : PySem.W.Frag} {tg l : Expr} {tl : TE} (h : PE X l tl) (hk : X.K = K := by rfl) : PI X tg l (iList K tl) := hk ▸ pi_list h
theorem pi_tupK {K : PySem.W.Frag} {tg l : Expr} {tl : TE} (h : PE X l tl) (hk : X.K = K := by rfl) : PI X tg l (iTup K tl) := hk ▸ pi_tup h
end
end S16
namespace S16
open PySem L2
/-! ### the draws -/
def But (H H' : Hp) (st c : Addr) : Prop := ∀ b o, H b = some o → b ≠ st → b ≠ c → H' b = some o
theorem But.refl (H : Hp) (st c : Addr) : But H H st c := fun _ _ e _ _ => e
structure StAt (H : Hp) (st c : Addr) : Prop where
  top : ∃ m : Int, H st = some (.lst [.ref c, .int m])
  cells : ∃ ns : List Int, ns.length ≤ 63 ∧ H c = some (.lst (ns.map V.int))
theorem StAt.ne {H : Hp} {st c : Addr} (S : StAt H st c) : st ≠ c := by
  obtain ⟨⟨m, h1⟩, ⟨ns, _, h2⟩⟩ := S
  refine ne_of h1 h2 fun e => ?_
  injection e with e
  cases ns with
  | nil => cases e
  | cons a r => cases e
/-- the heap without the state's two lists -/
def Off (H : Hp) (st c : Addr) : Hp := fun b => if b = st ∨ b = c then none else H b
theorem off_get {H : Hp} {st c b : Addr} {o : HO} (h : Off H st c b = some o) : H b = some o ∧ b ≠ st ∧ b ≠ c := by
  unfold Off at h
  split at h
  · cases h
  · rename_i z
    exact ⟨h, fun e => z (.inl e), fun e => z (.inr e)⟩
theorem off_of {H : Hp} {st c b : Addr} {o : HO} (h : H b = some o) (h1 : b ≠ st) (h2 : b ≠ c) : Off H st c b = some o := by
  unfold Off
  rw [if_neg (fun z => z.elim h1 h2)]
  exact h
theorem off_same (H : Hp) (st c : Addr) : Same (Off H st c) H := fun b o e => (off_get e).1
theorem off_none {H : Hp} {st c b : Addr} (h : H b = none) : Off H st c b = none := by
  unfold Off
  split
  · rfl
  · exact h
theorem off_upd {H : Hp} {st c d : Addr} {o : HO} (h1 : d ≠ st) (h2 : d ≠ c) : Off (upd H d o) st c = upd (Off H st c) d o := by
  funext b
  unfold Off
  by_cases z : b = st ∨ b = c
  · rw [if_pos z]
    have : b ≠ d := fun e => z.elim (fun y => h1 (e.symm.trans y)) (fun y => h2 (e.symm.trans y))
    rw [upd_ne this, if_pos z]
  · rw [if_neg z]
    by_cases y : b = d
    · rw [y, upd_same, upd_same]
    · rw [upd_ne y, upd_ne y, if_neg z]
theorem StAt.free {H : Hp} {st c p : Addr} (S : StAt H st c) (h : H p = none) : p ≠ st ∧ p ≠ c := by
  obtain ⟨⟨m, h1⟩, ⟨ns, _, h2⟩⟩ := S
  exact ⟨fun e => (by rw [e, h1] at h; cases h), fun e => (by rw [e, h2] at h; cases h)⟩
theorem stAt_upd {H : Hp} {st c d : Addr} {o : HO} (S : StAt H st c) (h1 : d ≠ st) (h2 : d ≠ c) : StAt (upd H d o) st c := by
  obtain ⟨⟨m, e1⟩, ⟨ns, l, e2⟩⟩ := S
  exact ⟨⟨m, by rw [upd_ne h1.symm]; exact e1⟩, ⟨ns, l, by rw [upd_ne h2.symm]; exact e2⟩⟩
/-- what was there beside the state stands; the state stands -/
structure Go (st c : Addr) (H H' : Hp) : Prop where
  same : Same (Off H st c) (Off H' st c)
  st : StAt H' st c
theorem Go.refl {st c : Addr} {H : Hp} (S : StAt H st c) : Go st c H H := ⟨Same.refl _, S⟩
theorem Go.trans {st c : Addr} {H H1 H2 : Hp} (a : Go st c H H1) (b : Go st c H1 H2) : Go st c H H2 := ⟨a.same.trans b.same, b.st⟩
theorem Go.new {st c p : Addr} {H : Hp} (S : StAt H st c) (np : H p = none) (o : HO) : Go st c H (upd H p o) ∧ Off (upd H p o) st c p = some o := by
  obtain ⟨h1, h2⟩ := S.free np
  have e := off_upd (H := H) (o := o) h1 h2
  refine ⟨⟨?_, stAt_upd S h1 h2⟩, by rw [e]; exact upd_same⟩
  rw [e]
  exact new_same (off_none np) o
theorem Go.of_same {st c : Addr} {H H' : Hp} (S : StAt H st c) (s : Same H H') : Go st c H H' := by
  refine ⟨fun b o e => ?_, ?_⟩
  · obtain ⟨e1, h1, h2⟩ := off_get e
    exact off_of (s _ _ e1) h1 h2
  · obtain ⟨⟨m, e1⟩, ⟨ns, l, e2⟩⟩ := S
    exact ⟨⟨m, s _ _ e1⟩, ⟨ns, l, s _ _ e2⟩⟩
def spState (K : PySem.W.Frag) : Sp := fun vs H Q _ => ∃ (a : Addr) (ns : List Int), vs = [.ref a] ∧ SqL K H a (ns.map V.int) ∧ ns.length ≤ 63 ∧ ∀ (st c : Addr) (H' : Hp), Same H H' → H st = none → H c = none → StAt H' st c → Q (.ref st) H'
def spDraw : Sp := fun vs H Q _ => ∃ (st c : Addr) (many : Int), vs = [.ref st, .int many] ∧ StAt H st c ∧ 0 < many ∧ many < 1000000 ∧
  ∀ (r : Int) (H' : Hp), 0 ≤ r → r < many → Go st c H H' → Q (.int r) H'
section
variable {P : Program} {w : World} {K : PySem.W.Frag} {mg : Str → Option Value} {base : Heap} {D : Defs}
theorem sc_state : FnScope ["script", "seed", "cell"] ["script"] (defScope s__law_state) := ⟨rfl, rfl, rfl, by decide +kernel, rfl, by decide +kernel, by decide +kernel⟩
theorem ok_state (O : Ok P K mg D) : FnOk P w K mg base CX0 1 D.f_law_state D.d_law_state ["script"] (spState K) := by
  refine O.F_law_state.ok sc_state (fun vs H Q E h => ?_) (fun cdv A outer s H vs Q E hr h => ?_)
  · obtain ⟨a, ns, rfl, _⟩ := h
    rfl
  obtain ⟨a, ns, rfl, hS, hlen, q⟩ := h
  refine ⟨_, pss_cons (ps_set (i := 1) sc_state.nd rfl (Or.inl rfl) pe_int)
    (pss_cons (ps_for PassesOwn.never rfl (pi_list (pv 0)) (pg_name (i := 2) sc_state.nd rfl (Or.inl rfl))
      (pss_one (ps_set (i := 1) sc_state.nd rfl (Or.inl rfl) (pe_op op_mod (pe_callTy call_int1 (by rfl) O.zint PyProof.Rows.boot_int (pa_cons (pe_op op_add (pe_op op_mul (pv 1) pe_int) (pv 2)) pa_nil)) pe_int))))
    (pss_one (ps_ret (pe_lst (pa_cons
      (pe_lc (own := [("cell", 2)]) (g := gName 2) (by rfl) sc_state.nd (pi_list (pv 0)) (blkOk_by (own := [("cell", 2)]) (N := ["script", "seed", "cell"]) (sc := defScope s__law_state) (by decide +kernel))
        (fun _ _ _ _ _ => pg_name (i := 2) sc_state.nd rfl (Or.inl rfl)) (fun _ _ _ _ _ => pts_nil) (fun _ _ _ _ _ => pe_callB call_abs (by rfl) O.zabs PyProof.Rows.boot_abs (pa_cons (pv 2) pa_nil)))
      (pa_cons (pe_op op_add (pv 1) pe_int) pa_nil)))))), ?_⟩
  refine ⟨_, rfl, a, rfl, ⟨_, hS⟩, for_list (K := K) (a := a) (xs := ns.map V.int) (fun i σ H2 => ∃ (z : Int) (v : Option V), σ = [some (.ref a), some (.int z), v] ∧ H2 = H ∧ 0 ≤ z ∧ z < 1000003)
      ⟨7, none, rfl, rfl, by decide, by decide⟩ (fun i σ H2 _ ⟨_, _, _, e, _⟩ => by rw [e]; exact hS) ?_ ?_⟩
  · rintro i y σ H2 hi ⟨z, v, rfl, rfl, hz, hz'⟩
    obtain ⟨n, rfl⟩ : ∃ n, y = V.int n := by
      obtain ⟨n, _, e⟩ := List.mem_map.mp (List.mem_of_getElem? hi)
      exact ⟨n, e.symm⟩
    refine ⟨_, rfl, _, _, rfl, rfl, .inl ⟨by omega, by omega⟩, _, rfl, _, _, rfl, rfl, .inl ⟨_, rfl, _, _, rfl, rfl, (by show (0 : Int) < 1000003; decide), ?_⟩⟩
    exact ⟨_, _, rfl, rfl, Int.emod_nonneg _ (by decide), Int.emod_lt_of_pos _ (by decide)⟩
  · rintro σ H2 ⟨z, v, rfl, rfl, hz, hz'⟩
    refine ⟨_, rfl, a, rfl, ⟨_, hS⟩, fun c nc => lc_list (K := K) (a := a) (xs := ns.map V.int) (fun i H3 => ∃ ms : List Int, ms.length = i ∧ H3 = upd H2 c (.lst (ms.map V.int)))
      ⟨[], rfl, rfl⟩ (fun i H3 _ ⟨ms, _, e⟩ => by rw [e]; exact (new_same nc _).seq hS) ?_ ?_⟩
    · rintro i y H3 hi ⟨ms, hm, rfl⟩
      obtain ⟨n, rfl⟩ : ∃ n, y = V.int n := by
        obtain ⟨n, _, e⟩ := List.mem_map.mp (List.mem_of_getElem? hi)
        exact ⟨n, e.symm⟩
      have hil : i < ns.length := by
        have := (List.getElem?_eq_some_iff.mp hi).1
        rwa [List.length_map] at this
      refine ⟨rfl, yes (iteT ?_)⟩
      refine ⟨_, rfl, _, rfl, ms.map V.int, upd_same, (by rw [List.length_map]; exact small1000 (by omega)), ms ++ [if n < 0 then -n else n], by rw [List.length_append, hm]; rfl, ?_⟩
      rw [upd_upd, List.map_append]
      rfl
    · rintro H3 ⟨ms, hm, rfl⟩
      refine ⟨_, rfl, _, _, rfl, rfl, (by show 2 ≤ sizeLine; decide), fun st nst => ?_⟩
      have hcs : st ≠ c := fun e => by rw [e, upd_same] at nst; cases nst
      refine q st c _ ((new_same nc _).trans (new_same nst _)) ((new_same nc _).free nst) nc ⟨⟨z + 1, upd_same⟩, ⟨ms, ?_, ?_⟩⟩
      · rw [hm, List.length_map]; exact hlen
      · rw [upd_ne hcs.symm]; exact upd_same
theorem But.go {st c : Addr} {H H' : Hp} (b : But H H' st c) (S : StAt H' st c) : Go st c H H' := ⟨fun x o e => by
  obtain ⟨e1, h1, h2⟩ := off_get e
  exact off_of (b _ _ e1 h1 h2) h1 h2, S⟩
theorem sc_draw : FnScope ["state", "many", "cells", "value", "mixed"] ["state", "many"] (defScope s__law_draw) := ⟨rfl, rfl, rfl, by decide +kernel, rfl, by decide +kernel, by decide +kernel⟩
theorem ok_draw (O : Ok P K mg D) : FnOk P w K mg base CX0 1 D.f_law_draw D.d_law_draw ["state", "many"] spDraw := by
  refine O.F_law_draw.ok sc_draw (fun vs H Q E h => ?_) (fun cdv A outer s H vs Q E hr h => ?_)
  · obtain ⟨st, c, many, rfl, _⟩ := h
    rfl
  obtain ⟨st, c, many, rfl, S, hm0, hm1, q⟩ := h
  have hne := S.ne
  refine ⟨_, pss_cons (ps_set (i := 2) sc_draw.nd rfl (Or.inl rfl) (pe_ix ix_list (pv 0) pe_int (fun _ _ => rfl)))
    (pss_cons (ps_while PassesOwn.never (PW.pt (pw_and (pt_cmpR op_gt (pe_callB call_len_seq (by rfl) O.zlen PySem.boot_len (pa_cons (pv 2) pa_nil)) pe_int (nomark _)) (pw_and1 (pt_cmpR op_eq (pe_ix ix_list (pv 2) pe_int (fun _ _ => rfl)) pe_int (nomark _)))))
      (pss_one (ps_expr (pe_bm PySem.F.plainAttrs_list PySem.F.slot_list_pop PySem.F.type_list_pop mt_popAt (pv 2) (pa_cons pe_int pa_nil)))))
    (pss_cons (ps_if (pt_cmpR op_gt (pe_callB call_len_seq (by rfl) O.zlen PySem.boot_len (pa_cons (pv 2) pa_nil)) pe_int (nomark _))
      (pss_cons (ps_set (i := 3) sc_draw.nd rfl (Or.inl rfl) (pe_ix ix_list (pv 2) pe_int (fun _ _ => rfl)))
      (pss_cons (ps_asg (pe_op op_fdiv (pv 3) (pv 1)) (pg_sub (pv 2) pe_int set_list))
      (pss_one (ps_ret (pe_op op_mod (pe_callTy call_int1 (by rfl) O.zint PyProof.Rows.boot_int (pa_cons (pv 3) pa_nil)) (pv 1)))))) pss_nil)
    (pss_cons (ps_set (i := 4) sc_draw.nd rfl (Or.inl rfl) (pe_op op_mod (pe_callTy call_int1 (by rfl) O.zint PyProof.Rows.boot_int (pa_cons (pe_op op_add (pe_op op_mul (pe_ix ix_list (pv 0) pe_int (fun _ _ => rfl)) pe_int) pe_int) pa_nil)) pe_int))
    (pss_cons (ps_asg (pv 4) (pg_sub (pv 0) pe_int set_list))
    (pss_one (ps_ret (pe_op op_mod (pe_callTy call_int1 (by rfl) O.zint PyProof.Rows.boot_int (pa_cons (pe_op op_fdiv (pv 4) pe_int) pa_nil)) (pv 1)))))))), ?_⟩
  obtain ⟨⟨m, hst⟩, ⟨ns0, hl0, hc0⟩⟩ := S
  refine ⟨_, rfl, st, _, _, _, rfl, rfl, SqL.of hst, at_of (j := 0) rfl rfl, ?_⟩
  refine ⟨fun n σ H2 => ∃ ns : List Int, n = ns.length ∧ ns.length ≤ 63 ∧ σ = [some (.ref st), some (.int many), some (.ref c), none, none] ∧ H2 st = some (.lst [.ref c, .int m]) ∧ H2 c = some (.lst (ns.map V.int)) ∧ But H H2 st c,
    ⟨_, ns0, rfl, hl0, rfl, hst, hc0, But.refl _ _ _⟩, ?_⟩
  rintro n σ H2 ⟨ns, rfl, hl, rfl, hst2, hc2, hb⟩
  refine ⟨_, rfl, c, _, rfl, .inl (SqL.of hc2), _, _, rfl, rfl, _, rfl, ?_⟩
  cases ns with
  | nil =>
    refine iteF (iteF ?_)
    refine ⟨_, rfl, c, _, rfl, .inl (SqL.of hc2), _, _, rfl, rfl, _, rfl, iteF ?_⟩
    refine ⟨_, rfl, st, _, _, _, rfl, rfl, SqL.of hst2, at_of (j := 1) rfl rfl, _, _, rfl, rfl, .inr ⟨by decide, by decide⟩, _, _, rfl, rfl, .inl ⟨_, rfl, _, _, rfl, rfl, (by show (0 : Int) < 2147483647; decide), ?_⟩⟩
    refine ⟨_, rfl, _, rfl, st, _, _, 1, rfl, rfl, hst2, rfl, ?_⟩
    refine ⟨_, rfl, _, _, rfl, rfl, ⟨by decide, by decide⟩, .inl ⟨_, rfl, _, rfl, _, _, rfl, rfl, hm0, ?_⟩⟩
    refine q _ _ (Int.emod_nonneg _ (by omega)) (Int.emod_lt_of_pos _ hm0) (But.go ?_ ⟨⟨_, upd_same⟩, ⟨[], by decide, ?_⟩⟩)
    · intro b o e h1 h2
      rw [upd_ne h1]
      exact hb b o e h1 h2
    · rw [upd_ne hne.symm]; exact hc2
  | cons n ns =>
    have hpos : decide ((0 : Int) < (((n :: ns).map V.int).length : Nat)) = true := decide_eq_true (by rw [List.length_map, List.length_cons]; omega)
    rw [hpos]
    refine iteT ⟨_, rfl, c, _, _, _, rfl, rfl, SqL.of hc2, at_of (j := 0) rfl rfl, rfl, _, rfl, ite2 (fun z => ?_) (fun z => ?_)⟩
    · refine ⟨fun σ' H' => ∃ m', m' < (n :: ns).length ∧ ∃ ns' : List Int, m' = ns'.length ∧ ns'.length ≤ 63 ∧ σ' = [some (.ref st), some (.int many), some (.ref c), none, none] ∧ H' st = some (.lst [.ref c, .int m]) ∧ H' c = some (.lst (ns'.map V.int)) ∧ But H H' st c,
        fun σ' H' h => h, ?_⟩
      refine ⟨_, rfl, .inl ⟨rfl, _, SqL.of hc2⟩, c, _, _, 0, _, rfl, rfl, hc2, by decide, by decide, by simp [seqIndex?], rfl, ?_⟩
      refine ⟨ns.length, by simp, ns, rfl, by simp at hl; omega, rfl, ?_, ?_, ?_⟩
      · rw [upd_ne hne]; exact hst2
      · exact upd_same
      · intro b o e h1 h2
        rw [upd_ne h2]
        exact hb b o e h1 h2
    · refine ⟨_, rfl, c, _, rfl, .inl (SqL.of hc2), _, _, rfl, rfl, _, rfl, ?_⟩
      rw [hpos]
      refine iteT ⟨_, rfl, c, _, _, _, rfl, rfl, SqL.of hc2, at_of (j := 0) rfl rfl, ?_⟩
      refine ⟨_, rfl, _, rfl, _, _, rfl, rfl, ⟨hm0, by omega⟩, _, rfl, c, _, _, 0, rfl, rfl, hc2, by simp [ixN], ?_⟩
      refine ⟨_, rfl, .inl ⟨_, rfl, _, rfl, _, _, rfl, rfl, hm0, ?_⟩⟩
      refine q _ _ (Int.emod_nonneg _ (by omega)) (Int.emod_lt_of_pos _ hm0) (But.go ?_ ⟨⟨m, ?_⟩, ⟨(n / many) :: ns, by simpa using hl, ?_⟩⟩)
      · intro b o e h1 h2
        rw [upd_ne h2]
        exact hb b o e h1 h2
      · rw [upd_ne hne]; exact hst2
      · exact upd_same
end
end S16
namespace S16
open PySem L2
/-! ### attributes by name -/
theorem putF_hit (f : Str) (v x : V) (r : List (Str × V)) : putF f v ((f, x) :: r) = (f, v) :: r := if_pos rfl
theorem putF_miss {f g : Str} (h : ¬ g = f) (v x : V) (r : List (Str × V)) : putF f v ((g, x) :: r) = (g, x) :: putF f v r := if_neg h
theorem lk_hit (f : Str) (x : V) (r : List (Str × V)) : List.lookup f ((f, x) :: r) = some x := by
  simp only [List.lookup, beq_self_eq_true]
theorem lk_miss {f g : Str} (h : ¬ g = f) (x : V) (r : List (Str × V)) : List.lookup g ((f, x) :: r) = List.lookup g r := by
  have hb : (g == f) = false := beq_eq_false_iff_ne.mpr h
  simp only [List.lookup, hb]
end S16
namespace S16
open PySem L2
theorem sl {n : Nat} (h : n ≤ 10000000) : n < sizeLine := by rw [sizeLine_eq]; omega
/-! ### what a piece of the program may change -/
/-- only what stands at fp may have changed; what stands at fp' was there or is new; tuples stay -/
structure Chg (fp fp' : List Addr) (H H' : Hp) : Prop where
  keep : ∀ a o, H a = some o → a ∉ fp → H' a = some o
  tups : ∀ a xs, H a = some (.tup xs) → H' a = some (.tup xs)
  dom : ∀ a, H' a = none → H a = none
  new : ∀ a, a ∈ fp' → a ∈ fp ∨ H a = none
section
variable {fp fp' gp gp' r : List Addr} {H H1 H2 H' : Hp} {a p : Addr} {o : HO}
theorem Chg.refl (fp : List Addr) (H : Hp) : Chg fp fp H H := ⟨fun _ _ h _ => h, fun _ _ h => h, fun _ h => h, fun _ h => .inl h⟩
theorem Chg.trans (x : Chg fp gp H H1) (y : Chg gp fp' H1 H2) : Chg fp fp' H H2 where
  keep := fun a o e n => y.keep a o (x.keep a o e n) fun z => (x.new a z).elim n fun w => by rw [w] at e; cases e
  tups := fun a xs e => y.tups a xs (x.tups a xs e)
  dom := fun a e => x.dom a (y.dom a e)
  new := fun a z => (y.new a z).elim (x.new a) fun w => .inr (x.dom a w)
theorem Chg.mono (x : Chg fp fp' H H') (h1 : ∀ a, a ∈ fp → a ∈ gp) (h2 : ∀ a, a ∈ gp' → a ∈ fp' ∨ a ∈ gp) : Chg gp gp' H H' where
  keep := fun a o e n => x.keep a o e fun z => n (h1 a z)
  tups := x.tups
  dom := x.dom
  new := fun a z => (h2 a z).elim (fun w => (x.new a w).imp (h1 a) id) .inl
theorem Chg.same (s : Same H H') (d : ∀ a, H' a = none → H a = none) : Chg fp fp H H' := ⟨fun a o e _ => s a o e, fun a xs e => s _ _ e, d, fun _ h => .inl h⟩
theorem dom_same (s : Same H H') : ∀ a, H' a = none → H a = none := fun _ e => s.free e
/-- a new object that belongs to the piece -/
theorem Chg.mk1 (n : H p = none) (o : HO) : Chg fp (p :: fp) H (upd H p o) where
  keep := fun a u e _ => by rw [upd_ne (ne_of_none e n)]; exact e
  tups := fun a u e => by rw [upd_ne (ne_of_none e n)]; exact e
  dom := fun a e => by
    by_cases z : a = p
    · rw [z]; exact n
    · rw [upd_ne z] at e; exact e
  new := fun a z => (List.mem_cons.mp z).elim (fun w => .inr (by rw [w]; exact n)) .inl
/-- a new object that nobody changes -/
theorem Chg.mk0 (n : H p = none) (o : HO) : Chg fp fp H (upd H p o) := (Chg.mk1 n o).mono (fun _ h => h) fun _ h => .inr h
theorem Chg.set (e : H a = some o) (m : a ∈ fp) (t : ∀ xs, o ≠ .tup xs) (o' : HO) : Chg fp fp H (upd H a o') where
  keep := fun b u h n => by rw [upd_ne fun z => n (by rw [z]; exact m)]; exact h
  tups := fun b u h => by
    rw [upd_ne fun z => ?_]
    · exact h
    · rw [z, e] at h; exact t u (Option.some.inj h)
  dom := fun b h => by
    by_cases z : b = a
    · rw [z, upd_same] at h; cases h
    · rw [upd_ne z] at h; exact h
  new := fun _ h => .inl h
theorem Chg.get (x : Chg fp fp' H H') (e : H a = some o) (n : a ∉ fp) : H' a = some o := x.keep a o e n
end
theorem no1 {a x : Addr} (h : a ≠ x) : a ∉ [x] := fun z => h (List.mem_singleton.mp z)
theorem no2 {a x y : Addr} (h : a ≠ x) (h' : a ≠ y) : a ∉ [x, y] := fun z => (List.mem_cons.mp z).elim h (no1 h')
theorem no3 {a x y z : Addr} (h : a ≠ x) (h' : a ≠ y) (h'' : a ≠ z) : a ∉ [x, y, z] := fun w => (List.mem_cons.mp w).elim h (no2 h' h'')
/-! ### data made of tuples -/
mutual
/-- v is the datum: ints, texts, bools, None, tuples of such -/
def Ft (H : Hp) : PyData → V → Prop
  | .none, v => v = .non
  | .bool b, v => v = .bl b
  | .int i, v => v = .int i
  | .str x, v => v = .str x
  | .tuple ds, v => ∃ p xs, v = .ref p ∧ H p = some (.tup xs) ∧ FtAll H ds xs
  | .list _, _ => False
  | .dict _, _ => False
def FtAll (H : Hp) : List PyData → List V → Prop
  | [], [] => True
  | d :: ds, x :: xs => Ft H d x ∧ FtAll H ds xs
  | _, _ => False
end
abbrev Tups (H H' : Hp) : Prop := ∀ a xs, H a = some (.tup xs) → H' a = some (.tup xs)
section
variable {H H' : Hp}
theorem FtAll.nil : FtAll H [] [] := by unfold FtAll; trivial
theorem FtAll.cons {d : PyData} {ds : List PyData} {x : V} {xs : List V} (h : Ft H d x) (h' : FtAll H ds xs) : FtAll H (d :: ds) (x :: xs) := by unfold FtAll; exact ⟨h, h'⟩
theorem FtAll.un {d : PyData} {ds : List PyData} {x : V} {xs : List V} (h : FtAll H (d :: ds) (x :: xs)) : Ft H d x ∧ FtAll H ds xs := by unfold FtAll at h; exact h
theorem FtAll.no1 {x : V} {xs : List V} (h : FtAll H [] (x :: xs)) : False := by unfold FtAll at h; exact h
theorem FtAll.no2 {d : PyData} {ds : List PyData} (h : FtAll H (d :: ds) []) : False := by unfold FtAll at h; exact h
theorem Ft.tup {ds : List PyData} {v : V} (h : Ft H (.tuple ds) v) : ∃ p xs, v = .ref p ∧ H p = some (.tup xs) ∧ FtAll H ds xs := by unfold Ft at h; exact h
theorem Ft.mkTup {ds : List PyData} {p : Addr} {xs : List V} (h : H p = some (.tup xs)) (h' : FtAll H ds xs) : Ft H (.tuple ds) (.ref p) := by unfold Ft; exact ⟨p, xs, rfl, h, h'⟩
theorem Ft.mkInt (i : Int) : Ft H (.int i) (.int i) := by unfold Ft; rfl
theorem Ft.int {i : Int} {v : V} (h : Ft H (.int i) v) : v = .int i := by unfold Ft at h; exact h
theorem Ft.mkStr (i : Str) : Ft H (.str i) (.str i) := by unfold Ft; rfl
theorem Ft.str {i : Str} {v : V} (h : Ft H (.str i) v) : v = .str i := by unfold Ft at h; exact h
mutual
theorem Ft.mono (s : Tups H H') : ∀ {d : PyData} {v : V}, Ft H d v → Ft H' d v
  | .none, _, h => by unfold Ft at h ⊢; exact h
  | .bool _, _, h => by unfold Ft at h ⊢; exact h
  | .int _, _, h => by unfold Ft at h ⊢; exact h
  | .str _, _, h => by unfold Ft at h ⊢; exact h
  | .tuple _, _, h => by
    obtain ⟨p, xs, rfl, h1, h2⟩ := h.tup
    exact Ft.mkTup (s _ _ h1) (FtAll.mono s h2)
  | .list _, _, h => by unfold Ft at h; exact h.elim
  | .dict _, _, h => by unfold Ft at h; exact h.elim
theorem FtAll.mono (s : Tups H H') : ∀ {ds : List PyData} {vs : List V}, FtAll H ds vs → FtAll H' ds vs
  | [], [], _ => .nil
  | _ :: _, _ :: _, h => .cons (Ft.mono s h.un.1) (FtAll.mono s h.un.2)
  | [], _ :: _, h => h.no1.elim
  | _ :: _, [], h => h.no2.elim
end
theorem FtAll.len : ∀ {ds : List PyData} {vs : List V}, FtAll H ds vs → vs.length = ds.length
  | [], [], _ => rfl
  | _ :: _, _ :: _, h => congrArg (· + 1) h.un.2.len
  | [], _ :: _, h => h.no1.elim
  | _ :: _, [], h => h.no2.elim
theorem FtAll.get : ∀ {ds : List PyData} {vs : List V} {i : Nat} {d : PyData}, FtAll H ds vs → ds[i]? = some d → ∃ x, vs[i]? = some x ∧ Ft H d x
  | [], [], i, x, _, e => by cases i <;> cases e
  | _ :: _, y :: _, 0, x, h, e => ⟨y, rfl, by cases e; exact h.un.1⟩
  | _ :: _, _ :: _, i + 1, x, h, e => h.un.2.get (i := i) e
  | [], _ :: _, _, _, h, _ => h.no1.elim
  | _ :: _, [], _, _, h, _ => h.no2.elim
theorem FtAll.app : ∀ {ds es : List PyData} {xs ys : List V}, FtAll H ds xs → FtAll H es ys → FtAll H (ds ++ es) (xs ++ ys)
  | [], _, [], _, _, h => h
  | _ :: _, _, _ :: _, _, h', h => .cons h'.un.1 (h'.un.2.app h)
  | [], _, _ :: _, _, h, _ => h.no1.elim
  | _ :: _, _, [], _, h, _ => h.no2.elim
theorem FtAll.set : ∀ {ds : List PyData} {vs : List V} {d : PyData} {x : V} (i : Nat), FtAll H ds vs → Ft H d x → FtAll H (ds.set i d) (vs.set i x)
  | [], [], _, _, _, _, _ => .nil
  | _ :: _, _ :: _, _, _, 0, h, e => .cons e h.un.2
  | _ :: _, _ :: _, _, _, i + 1, h, e => .cons h.un.1 (h.un.2.set i e)
  | [], _ :: _, _, _, _, h, _ => h.no1.elim
  | _ :: _, [], _, _, _, h, _ => h.no2.elim
theorem FtAll.ints : ∀ {ns : List Int}, FtAll H (ns.map .int) (ns.map V.int)
  | [] => .nil
  | n :: _ => .cons (Ft.mkInt n) FtAll.ints
theorem FtAll.ints_eq : ∀ {ns : List Int} {vs : List V}, FtAll H (ns.map .int) vs → vs = ns.map V.int
  | [], [], _ => rfl
  | _ :: _, _ :: _, h => by rw [h.un.1.int, h.un.2.ints_eq]; rfl
  | [], _ :: _, h => h.no1.elim
  | _ :: _, [], h => h.no2.elim
mutual
theorem Ft.dp (K : PySem.W.Frag) : ∀ {d : PyData} {v : V}, Ft H d v → Dp K H v d
  | .none, _, h => by unfold Ft at h; subst h; exact .non
  | .bool _, _, h => by unfold Ft at h; subst h; exact .bl _
  | .int _, _, h => by unfold Ft at h; subst h; exact .int _
  | .str _, _, h => by unfold Ft at h; subst h; exact .str _
  | .tuple _, _, h => by
    obtain ⟨p, xs, rfl, h1, h2⟩ := h.tup
    exact .tup (SqT.of h1) (FtAll.dp K h2)
  | .list _, _, h => by unfold Ft at h; exact h.elim
  | .dict _, _, h => by unfold Ft at h; exact h.elim
theorem FtAll.dp (K : PySem.W.Frag) : ∀ {ds : List PyData} {vs : List V}, FtAll H ds vs → DpAll K H vs ds
  | [], [], _ => .nil
  | _ :: _, _ :: _, h => .cons (Ft.dp K h.un.1) (FtAll.dp K h.un.2)
  | [], _ :: _, h => h.no1.elim
  | _ :: _, [], h => h.no2.elim
end
end
end S16
namespace S16
open PySem L2
theorem chg_go {st c : Addr} {H H' : Hp} (S : StAt H st c) (g : Same (Off H st c) (Off H' st c)) (S' : StAt H' st c) : Chg [st, c] [st, c] H H' where
  keep := fun a o e n => (off_get (g a o (off_of e (fun z => n (by rw [z]; exact .head _)) fun z => n (by rw [z]; exact .tail _ (.head _))))).1
  tups := fun a xs e => by
    obtain ⟨⟨m, h1⟩, ⟨ns, _, h2⟩⟩ := S
    exact (off_get (g a _ (off_of e (ne_of e h1 (by intro z; cases z)) (ne_of e h2 (by intro z; cases z))))).1
  dom := fun a e => by
    cases z : H a with
    | none => rfl
    | some o =>
      obtain ⟨h1, h2⟩ := S'.free e
      have := (off_get (g a o (off_of z h1 h2))).1
      rw [e] at this
      cases this
  new := fun a h => .inl h
theorem Go.chg {st c : Addr} {H H' : Hp} (g : Go st c H H') (S : StAt H st c) : Chg [st, c] [st, c] H H' := chg_go S g.same g.st
theorem StAt.keep {st c : Addr} {H H' : Hp} {fp fp' : List Addr} (S : StAt H st c) (g : Chg fp fp' H H') (h1 : st ∉ fp) (h2 : c ∉ fp) : StAt H' st c := by
  obtain ⟨⟨m, e1⟩, ⟨ns, l, e2⟩⟩ := S
  exact ⟨⟨m, g.keep _ _ e1 h1⟩, ⟨ns, l, g.keep _ _ e2 h2⟩⟩
/-- a list made by a comprehension, its items data that stand -/
theorem lc_chg {α : Type} {fp : List Addr} {d : Addr} {H0 : Hp} {n : Nat} {J : It} {X : Nat → V → Prop} {Qd : Hp → Prop} {B : V → Hp → (Hp → Prop) → Prop} (R : Hp → α → V → Prop) (Iv : Nat → Hp → Prop) (Pz : Nat → α → Prop)
    (Rm : ∀ H H' x v, (∀ b o, H b = some o → b ∉ fp → b ≠ d → H' b = some o) → Tups H H' → R H x v → R H' x v)
    (nd : H0 d = none) (nf : d ∉ fp) (hn : n ≤ 100000) (hI : ∀ i H o, Iv i H → Chg fp fp H0 H → Iv i (upd H d o)) (h0 : Iv 0 H0)
    (hstop : ∀ H, Chg fp fp H0 H → Iv n H → J.stop n H) (hgo : ∀ i H, i < n → Chg fp fp H0 H → Iv i H → J.go i H) (hy : ∀ i H x H', i < n → Chg fp fp H0 H → Iv i H → J.yld i H x H' → H' = H ∧ X i x)
    (hs : ∀ i x H acc, i < n → X i x → Chg fp fp H0 H → Iv i H → H d = some (.lst acc) → ∀ Nx : Hp → Prop, (∀ y H4 (z : α), Chg fp fp H H4 → Iv (i + 1) H4 → R H4 z y → Pz i z → ∃ acc, H4 d = some (.lst acc) ∧ acc.length < sizeLine ∧ Nx (upd H4 d (.lst (acc ++ [y])))) → B x H Nx)
    (hd : ∀ H zs acc, Chg fp fp H0 H → Iv n H → H d = some (.lst acc) → Each R H zs acc → zs.length = n → (∀ i z, zs[i]? = some z → Pz i z) → Qd H) :
    ∃ W : Nat → Nat → Hp → Prop, (∃ m, W 0 m (upd H0 d (.lst []))) ∧ ∀ i m H, W i m H →
      (J.stop i H ∧ Qd H) ∨ (J.go i H ∧ ∃ Nx : Hp → Prop, (∀ H', Nx H' → ∃ m', m' < m ∧ W (i + 1) m' H') ∧ ∀ x H', J.yld i H x H' → B x H' Nx) := by
  let Pv : Nat → Hp → Prop := fun i H => ∃ acc zs, H d = some (.lst acc) ∧ Chg fp fp H0 H ∧ Iv i H ∧ Each R H zs acc ∧ zs.length = i ∧ ∀ j z, zs[j]? = some z → Pz j z
  refine ⟨fun i m H => m + i = n ∧ Pv i H, ⟨n, rfl, [], [], upd_same, Chg.mk0 nd _, hI 0 H0 _ h0 (Chg.refl _ _), trivial, rfl, fun j z hz => by cases hz⟩, ?_⟩
  rintro i m H ⟨em, acc, zs, hacc, g, iv, he, hl, hz⟩
  cases m with
  | zero =>
    have ei : i = n := by omega
    subst ei
    exact .inl ⟨hstop H g iv, hd H zs acc g iv hacc he hl hz⟩
  | succ m =>
    have hi : i < n := by omega
    refine .inr ⟨hgo i H hi g iv, Pv (i + 1), fun H' p => ⟨m, Nat.lt_succ_self _, by omega, p⟩, fun x H' y => ?_⟩
    obtain ⟨rfl, hx⟩ := hy i H x H' hi g iv y
    refine hs i x H' acc hi hx g iv hacc (Pv (i + 1)) fun y H4 z g4 iv4 r zz => ?_
    have h4 := g4.keep d _ hacc nf
    have hal := Each.len he
    have g5 : Chg fp fp H0 (upd H4 d (.lst (acc ++ [y]))) := by
      have g04 := g.trans g4
      refine ⟨fun b o e nb => ?_, fun b xs e => ?_, fun b e => ?_, fun _ h => .inl h⟩
      · rw [upd_ne (ne_of_none e nd)]; exact g04.keep b o e nb
      · rw [upd_ne (ne_of_none e nd)]; exact g04.tups b xs e
      · by_cases zb : b = d
        · rw [zb]; exact nd
        · rw [upd_ne zb] at e; exact g04.dom b e
    have tu : Tups H4 (upd H4 d (.lst (acc ++ [y]))) := fun b xs e => by
      rw [upd_ne fun zb => ?_]
      · exact e
      · rw [zb, h4] at e; cases e
    refine ⟨acc, h4, small5' hn (by omega), acc ++ [y], zs ++ [z], upd_same, g5, hI _ _ _ iv4 (g.trans g4), ?_, by rw [List.length_append, hl]; rfl, ?_⟩
    · refine Each.app (Each.mono (fun a v h => Rm _ _ _ _ (fun b o e nb nbd => by rw [upd_ne nbd]; exact g4.keep b o e nb) (fun b xs e => tu b xs (g4.tups b xs e)) h) he) ⟨Rm _ _ _ _ (fun b o e nb nbd => by rw [upd_ne nbd]; exact e) tu r, trivial⟩
    · intro j a ha
      by_cases hj : j < zs.length
      · rw [List.getElem?_append_left hj] at ha
        exact hz j a ha
      · rw [List.getElem?_append_right (by omega)] at ha
        have : j - zs.length = 0 := by
          cases q : j - zs.length with
          | zero => rfl
          | succ k => rw [q] at ha; cases ha
        rw [this] at ha
        cases ha
        have ej : j = i := by omega
        rw [ej]; exact zz
where small5' {n k : Nat} (h : n ≤ 100000) (h' : k < n) : k < sizeLine := small5 (by omega)
theorem ft_rm {fp : List Addr} {d : Addr} : ∀ (H H' : Hp) (x : PyData) (v : V), (∀ b o, H b = some o → b ∉ fp → b ≠ d → H' b = some o) → Tups H H' → Ft H x v → Ft H' x v := fun _ _ _ _ _ t h => h.mono t
theorem each_ft {H : Hp} : ∀ {zs : List PyData} {acc : List V}, Each Ft H zs acc → FtAll H zs acc
  | [], [], _ => .nil
  | _ :: _, _ :: _, ⟨h1, h2⟩ => .cons h1 (each_ft h2)
  | [], _ :: _, h => h.elim
  | _ :: _, [], h => h.elim
theorem ft_each {H : Hp} : ∀ {zs : List PyData} {acc : List V}, FtAll H zs acc → Each Ft H zs acc
  | [], [], _ => trivial
  | _ :: _, _ :: _, h => ⟨h.un.1, ft_each h.un.2⟩
  | [], _ :: _, h => h.no1.elim
  | _ :: _, [], h => h.no2.elim
/-- walks that stand: a range, a list, a tuple -/
theorem wk_range {fp : List Addr} {H0 : Hp} {n : Nat} {Iv : Nat → Hp → Prop} : (∀ H, Chg fp fp H0 H → Iv n H → (Itr 0 n).stop n H) ∧ (∀ i H, i < n → Chg fp fp H0 H → Iv i H → (Itr 0 n).go i H) ∧ (∀ i H x H', i < n → Chg fp fp H0 H → Iv i H → (Itr 0 n).yld i H x H' → H' = H ∧ x = V.int (0 + (i : Int))) :=
  ⟨fun H g _ => Nat.le_refl n, fun i H hi g _ => hi, fun i H x H' _ g _ y => y⟩
theorem wk_list {K : PySem.W.Frag} {fp : List Addr} {H0 : Hp} {a : Addr} {xs : List V} {Iv : Nat → Hp → Prop} (ha : ∀ i H, Chg fp fp H0 H → Iv i H → SqL K H a xs) :
    (∀ H, Chg fp fp H0 H → Iv xs.length H → (Itl K a).stop xs.length H) ∧ (∀ i H, i < xs.length → Chg fp fp H0 H → Iv i H → (Itl K a).go i H) ∧ (∀ i H x H', i < xs.length → Chg fp fp H0 H → Iv i H → (Itl K a).yld i H x H' → H' = H ∧ xs[i]? = some x) :=
  ⟨fun H g v => ⟨xs, ha _ H g v, Nat.le_refl _⟩, fun i H hi g v => ⟨xs, xs[i], ha _ H g v, List.getElem?_eq_getElem hi⟩, fun i H x H' _ g v y => ⟨y.1, y.2 xs (ha _ H g v)⟩⟩
theorem wk_tup {K : PySem.W.Frag} {fp : List Addr} {H0 : Hp} {a : Addr} {xs : List V} {Iv : Nat → Hp → Prop} (ha : H0 a = some (.tup xs)) :
    (∀ H, Chg fp fp H0 H → Iv xs.length H → (Itt K a).stop xs.length H) ∧ (∀ i H, i < xs.length → Chg fp fp H0 H → Iv i H → (Itt K a).go i H) ∧ (∀ i H x H', i < xs.length → Chg fp fp H0 H → Iv i H → (Itt K a).yld i H x H' → H' = H ∧ xs[i]? = some x) :=
  ⟨fun H g v => ⟨xs, SqT.of (g.tups _ _ ha), Nat.le_refl _⟩, fun i H hi g v => ⟨xs, xs[i], SqT.of (g.tups _ _ ha), List.getElem?_eq_getElem hi⟩, fun i H x H' _ g v y => ⟨y.1, y.2 xs (SqT.of (g.tups _ _ ha))⟩⟩
end S16
namespace S16
open PySem L2
/-! ### words, contents, writes as data -/
abbrev Ws := List Int
def wd (ws : List Int) : PyData := .tuple (ws.map .int)
def ct (cs : List (List Int)) : PyData := .tuple (cs.map wd)
def pw (p : Int × List Int) : PyData := .tuple [.int p.1, wd p.2]
def snap (dur : List (List Int)) (pend : List (Int × List Int)) : PyData := .tuple [ct dur, .tuple (pend.map pw)]
theorem Ft.ofWd {H : Hp} {ws : List Int} {v : V} (h : Ft H (wd ws) v) : ∃ p, v = .ref p ∧ H p = some (.tup (ws.map V.int)) := by
  obtain ⟨p, xs, e, h1, h2⟩ := Ft.tup h
  exact ⟨p, e, by rw [h1, h2.ints_eq]⟩
theorem Ft.mkWd {H : Hp} {ws : List Int} {p : Addr} (h : H p = some (.tup (ws.map V.int))) : Ft H (wd ws) (.ref p) := Ft.mkTup h .ints
/-! ### data that compare -/
def Shp (n : Nat) (d : PyData) : Prop := d.canLay0 = true ∧ d.depth ≤ n
theorem canAll : ∀ {ds : List PyData}, (∀ d ∈ ds, d.canLay0 = true) → PyData.canLayAll0 ds = true
  | [], _ => rfl
  | d :: ds, h => by
    rw [PyData.canLayAll0, h d (List.mem_cons_self ..), canAll fun x hx => h x (List.mem_cons_of_mem _ hx)]; rfl
theorem depAll {n : Nat} : ∀ {ds : List PyData}, (∀ d ∈ ds, d.depth ≤ n) → PyData.depthAll ds ≤ n
  | [], _ => Nat.zero_le _
  | d :: ds, h => by
    rw [PyData.depthAll]
    exact Nat.max_le.mpr ⟨h d (List.mem_cons_self ..), depAll fun x hx => h x (List.mem_cons_of_mem _ hx)⟩
theorem Shp.int (n : Nat) (i : Int) : Shp n (.int i) := ⟨by simp [PyData.canLay0], by simp [PyData.depth]⟩
theorem Shp.tuple {n : Nat} {ds : List PyData} (h : ∀ d ∈ ds, Shp n d) : Shp (n + 1) (.tuple ds) := by
  refine ⟨?_, ?_⟩
  · rw [PyData.canLay0]; exact canAll fun d hd => (h d hd).1
  · rw [PyData.depth]; exact Nat.succ_le_succ (depAll fun d hd => (h d hd).2)
theorem Shp.list {n : Nat} {ds : List PyData} (h : ∀ d ∈ ds, Shp n d) : Shp (n + 1) (.list ds) := by
  refine ⟨?_, ?_⟩
  · rw [PyData.canLay0]; exact canAll fun d hd => (h d hd).1
  · rw [PyData.depth]; exact Nat.succ_le_succ (depAll fun d hd => (h d hd).2)
theorem Shp.mono {n m : Nat} {d : PyData} (h : Shp n d) (l : n ≤ m) : Shp m d := ⟨h.1, Nat.le_trans h.2 l⟩
theorem Shp.ok {n : Nat} {d : PyData} (h : Shp n d) (l : n ≤ 64) : SeqAt.shaped d = true := by
  unfold SeqAt.shaped
  rw [h.1, decide_eq_true (Nat.le_trans h.2 l)]; rfl
theorem Shp.eq {n : Nat} {d : PyData} (h : Shp n d) : PyData.eqv d d = true := SeqAt.eqv_refl d h.1
theorem shp_wd (ws : List Int) : Shp 1 (wd ws) := Shp.tuple fun d hd => by
  obtain ⟨i, _, rfl⟩ := List.mem_map.mp hd
  exact Shp.int 0 i
theorem shp_ct (cs : List (List Int)) : Shp 2 (ct cs) := Shp.tuple fun d hd => by
  obtain ⟨i, _, rfl⟩ := List.mem_map.mp hd
  exact shp_wd i
theorem shp_pw (p : Int × List Int) : Shp 2 (pw p) := Shp.tuple fun d hd => by
  rcases List.mem_cons.mp hd with rfl | hd
  · exact Shp.int 1 _
  · rw [List.mem_singleton.mp hd]; exact shp_wd _
theorem shp_snap (dur : List (List Int)) (pend : List (Int × List Int)) : Shp 4 (snap dur pend) := Shp.tuple fun d hd => by
  rcases List.mem_cons.mp hd with rfl | hd
  · exact (shp_ct _).mono (by decide)
  · rw [List.mem_singleton.mp hd]
    refine Shp.tuple fun d hd => ?_
    obtain ⟨i, _, rfl⟩ := List.mem_map.mp hd
    exact shp_pw i
end S16
namespace S16
open PySem L2
/-! ### a list of one's own that grows, all else stands -/
def LAt (d : Addr) (H0 : Hp) (es : List PyData) (H : Hp) : Prop := ∃ acc, H d = some (.lst acc) ∧ FtAll H es acc ∧ Chg [] [] H0 H
section
variable {d : Addr} {H0 H H4 : Hp} {es fs : List PyData} {e : PyData} {y : V}
theorem LAt.start (n : H0 d = none) : LAt d H0 [] (upd H0 d (.lst [])) := ⟨[], upd_same, .nil, Chg.mk0 n _⟩
theorem LAt.chg (x : LAt d H0 es H) : Chg [] [] H0 H := x.choose_spec.2.2
theorem LAt.keep (x : LAt d H0 es H) (c : Chg [] [] H H4) : LAt d H0 es H4 := by
  obtain ⟨acc, h1, h2, h3⟩ := x
  exact ⟨acc, c.keep _ _ h1 (by intro h; cases h), h2.mono c.tups, h3.trans c⟩
theorem chg_own {H5 : Hp} {o o' : HO} (n : H0 d = none) (c : Chg [] [] H0 H) (h : H d = some o) (ho : ∀ xs, o ≠ .tup xs) : Chg [] [] H0 (upd H d o') := by
  refine ⟨fun b u e nb => ?_, fun b xs e => ?_, fun b e => ?_, fun _ h => .inl h⟩
  · rw [upd_ne (ne_of_none e n)]; exact c.keep b u e nb
  · rw [upd_ne (ne_of_none e n)]; exact c.tups b xs e
  · by_cases zb : b = d
    · rw [zb]; exact n
    · rw [upd_ne zb] at e; exact c.dom b e
theorem tups_own {o o' : HO} (h : H d = some o) (ho : ∀ xs, o ≠ .tup xs) : Tups H (upd H d o') := fun b xs e => by
  rw [upd_ne fun zb => ?_]
  · exact e
  · rw [zb, h] at e; exact ho xs (Option.some.inj e)
theorem LAt.put (x : LAt d H0 es H) (n : H0 d = none) {acc : List V} (h : FtAll H fs acc) : LAt d H0 fs (upd H d (.lst acc)) := by
  obtain ⟨acc0, h1, h2, h3⟩ := x
  exact ⟨acc, upd_same, h.mono (tups_own h1 fun _ z => by cases z), chg_own (H5 := H) n h3 h1 fun _ z => by cases z⟩
theorem LAt.push (x : LAt d H0 es H) (n : H0 d = none) (c : Chg [] [] H H4) (f : Ft H4 e y) (hl : es.length < sizeLine) :
    ∃ acc, H4 d = some (.lst acc) ∧ acc.length < sizeLine ∧ LAt d H0 (es ++ [e]) (upd H4 d (.lst (acc ++ [y]))) := by
  have x4 := x.keep c
  obtain ⟨acc, h1, h2, h3⟩ := id x4
  exact ⟨acc, h1, by rw [h2.len]; exact hl, x4.put n (h2.app (.cons f .nil))⟩
end
/-- a loop in general: a word that holds at each turn -/
theorem it_loop {J : It} {n : Nat} {Nx : Hp → Prop} {B : V → Hp → (Hp → Prop) → Prop} {H0 : Hp} (Pv : Nat → Hp → Prop) (h0 : Pv 0 H0) (hstop : ∀ H, Pv n H → J.stop n H ∧ Nx H) (hgo : ∀ i H, i < n → Pv i H → J.go i H)
    (hs : ∀ i x H H', i < n → Pv i H → J.yld i H x H' → B x H' (Pv (i + 1))) :
    ∃ W : Nat → Nat → Hp → Prop, (∃ m, W 0 m H0) ∧ ∀ i m H, W i m H → (J.stop i H ∧ Nx H) ∨ (J.go i H ∧ ∃ N : Hp → Prop, (∀ H', N H' → ∃ m', m' < m ∧ W (i + 1) m' H') ∧ ∀ x H', J.yld i H x H' → B x H' N) := by
  refine ⟨fun i m H => m = n - i ∧ i ≤ n ∧ Pv i H, ⟨n, by simp, Nat.zero_le _, h0⟩, ?_⟩
  rintro i m H ⟨rfl, hi, p⟩
  by_cases hlt : i < n
  · exact .inr ⟨hgo i H hlt p, Pv (i + 1), fun H' p' => ⟨n - (i + 1), by omega, rfl, hlt, p'⟩, fun x H' y => hs i x H H' hlt p y⟩
  · have e : i = n := by omega
    subst e
    exact .inl (hstop H p)
theorem cutV_one (x : V) (xs : List V) : cutV (x :: xs) (some 1) none = xs := by
  unfold cutV
  have e1 : HT.sIx (x :: xs).length 0 (some 1) = 1 := by
    show (if (1 : Int) < 0 then ((1 : Int) + ((x :: xs).length : Int)).toNat else min (1 : Int).toNat (x :: xs).length) = 1
    rw [if_neg (by decide), List.length_cons]
    show min 1 (xs.length + 1) = 1
    omega
  rw [e1]
  show (xs.take ((x :: xs).length - 1)) = xs
  rw [List.length_cons, Nat.add_sub_cancel, List.take_length]
theorem cutV_last (xs : List V) (h : xs ≠ []) : cutV xs (some (-1)) none = xs.drop (xs.length - 1) := by
  unfold cutV
  have hl : 1 ≤ xs.length := List.length_pos_iff.mpr h
  have e1 : HT.sIx xs.length 0 (some (-1)) = xs.length - 1 := by
    show (if (-1 : Int) < 0 then ((-1 : Int) + (xs.length : Int)).toNat else min (-1 : Int).toNat xs.length) = _
    rw [if_pos (by decide)]
    omega
  rw [e1]
  show (xs.drop (xs.length - 1)).take (xs.length - (xs.length - 1)) = _
  rw [List.take_of_length_le (by rw [List.length_drop]; omega)]
theorem cutV_take (xs : List V) (k : Nat) (h : k ≤ xs.length) : cutV xs none (some (k : Int)) = xs.take k := by
  unfold cutV
  rw [HT.sIx_none, HT.sIx_nat, List.drop_zero, Nat.sub_zero, Nat.min_eq_left h]
theorem cutV_drop (xs : List V) (k : Nat) : cutV xs (some (k : Int)) none = xs.drop k := by
  unfold cutV
  rw [HT.sIx_none, HT.sIx_nat, List.take_of_length_le (by rw [List.length_drop]; omega)]
  by_cases h : k ≤ xs.length
  · rw [Nat.min_eq_left h]
  · rw [Nat.min_eq_right (by omega), List.drop_of_length_le (Nat.le_refl _), List.drop_of_length_le (by omega)]
theorem FtAll.drop {H : Hp} : ∀ {ds : List PyData} {vs : List V} (n : Nat), FtAll H ds vs → FtAll H (ds.drop n) (vs.drop n)
  | _, _, 0, h => h
  | [], [], n + 1, _ => .nil
  | _ :: _, _ :: _, n + 1, h => h.un.2.drop n
  | [], _ :: _, _ + 1, h => h.no1.elim
  | _ :: _, [], _ + 1, h => h.no2.elim
theorem FtAll.take {H : Hp} : ∀ {ds : List PyData} {vs : List V} (n : Nat), FtAll H ds vs → FtAll H (ds.take n) (vs.take n)
  | _, _, 0, h => .nil
  | [], [], n + 1, _ => .nil
  | _ :: _, _ :: _, n + 1, h => .cons h.un.1 (h.un.2.take n)
  | [], _ :: _, _ + 1, h => h.no1.elim
  | _ :: _, [], _ + 1, h => h.no2.elim
end S16
namespace S16
open PySem L2
open TL (tl tl_append ext_tl len_tl)
/-! ### texts -/
def num (i : Int) : Str := (toString i : String)
def wtx (ws : List Int) : Str := Str.join " " (ws.map num)
/-- sep ahead of each part -/
def gl (y : Str) (ps : List Str) : Str := ps.foldl (fun t x => (t ++ y) ++ x) Str.empty
theorem tl_gl_aux (y : Str) : ∀ (ps : List Str) (acc : Str), tl (ps.foldl (fun t x => (t ++ y) ++ x) acc) = tl acc ++ (ps.map fun x => tl y ++ tl x).flatten
  | [], acc => by simp
  | p :: r, acc => by
    show tl (r.foldl _ ((acc ++ y) ++ p)) = _
    rw [tl_gl_aux y r, tl_append, tl_append, List.map_cons, List.flatten_cons]
    simp only [List.append_assoc]
theorem gl_snoc (y : Str) (ps : List Str) (x : Str) : gl y (ps ++ [x]) = (gl y ps ++ y) ++ x := by
  unfold gl; rw [List.foldl_append]; rfl
theorem fl_join (S : List Nat) : ∀ ps : List (List Nat), ps ≠ [] → (ps.map fun x => S ++ x).flatten = S ++ TL.joinL S ps
  | [], h => absurd rfl h
  | [p], _ => by simp [TL.joinL]
  | p :: q :: r, _ => by
    rw [List.map_cons, List.flatten_cons, fl_join S (q :: r) (by simp)]
    show (S ++ p) ++ (S ++ TL.joinL S (q :: r)) = S ++ (p ++ (S ++ TL.joinL S (q :: r)))
    rw [List.append_assoc]
theorem cut_gl (y : Str) (ps : List Str) : cutS (gl y ps) (some (y.length : Int)) none = Str.join y ps := by
  refine ext_tl ?_
  unfold cutS
  rw [HT.sIx_none, HT.sIx_nat, TL.tl_join]
  have e : tl (gl y ps) = ((ps.map tl).map fun x => tl y ++ x).flatten := by
    unfold gl; rw [tl_gl_aux, List.map_map]; rfl
  have hl : (gl y ps).length = (tl (gl y ps)).length := len_tl _
  show List.take _ (List.drop _ (tl (gl y ps))) = _
  cases ps with
  | nil => rw [hl, e]; simp [TL.joinL]
  | cons p r =>
    rw [hl, e, fl_join _ _ (by simp), len_tl y]
    have e1 : min (tl y).length (tl y ++ TL.joinL (tl y) ((p :: r).map tl)).length = (tl y).length := by
      rw [List.length_append]; omega
    rw [e1, List.drop_left, List.take_of_length_le (by rw [List.length_append]; omega)]
theorem emp_app (x : Str) : Str.empty ++ x = x := ext_tl (by rw [tl_append]; rfl)
theorem join_len (y : Str) (m : Nat) : ∀ ps : List Str, (∀ p ∈ ps, p.length ≤ m) → (Str.join y ps).length ≤ ps.length * (m + y.length)
  | [], _ => Nat.zero_le _
  | [p], h => by
    have := h p (List.mem_singleton.mpr rfl)
    show p.length ≤ 1 * (m + y.length)
    omega
  | p :: q :: r, h => by
    have ih := join_len y m (q :: r) fun x hx => h x (List.mem_cons_of_mem _ hx)
    have := h p (List.mem_cons_self ..)
    show ((p ++ y) ++ Str.join y (q :: r)).length ≤ _
    rw [strLen_append, strLen_append, List.length_cons (a := p), Nat.add_mul]
    omega
theorem gl_len (y : Str) (m : Nat) (ps : List Str) (h : ∀ p ∈ ps, p.length ≤ m) : (gl y ps).length ≤ ps.length * (m + y.length) := by
  have aux : ∀ (ps : List Str) (acc : Str), (∀ p ∈ ps, p.length ≤ m) → (ps.foldl (fun t x => (t ++ y) ++ x) acc).length ≤ acc.length + ps.length * (m + y.length) := by
    intro ps
    induction ps with
    | nil => intro acc _; simp
    | cons p r ih =>
      intro acc h
      have h1 := ih ((acc ++ y) ++ p) fun x hx => h x (List.mem_cons_of_mem _ hx)
      have h2 := h p (List.mem_cons_self ..)
      rw [strLen_append, strLen_append] at h1
      show (r.foldl _ ((acc ++ y) ++ p)).length ≤ _
      rw [List.length_cons, Nat.add_mul]
      omega
  have := aux ps Str.empty h
  unfold gl
  have e : Str.empty.length = 0 := rfl
  omega
theorem num_len {i : Int} (h0 : 0 ≤ i) (h1 : i < 1000000) : (num i).length ≤ 6 := PyProof.Rows.toString_length_le h0 (by decide) h1
theorem num_log {i : Int} (h0 : 0 ≤ i) (h1 : i < 1000000) : i.natAbs.log2 < 1920 := by
  have h2 : i.natAbs < 2 ^ 1920 := Nat.lt_of_lt_of_le (show i.natAbs < 2 ^ 20 by have : (2 : Nat) ^ 20 = 1048576 := rfl; omega) (Nat.pow_le_pow_right (by decide) (by decide))
  by_cases z : i.natAbs = 0
  · rw [z]; decide
  · exact (Nat.log2_lt z).mpr h2
/-- words that can be told -/
def OkW (ws : List Int) : Prop := ws.length ≤ 20 ∧ ∀ w ∈ ws, 0 ≤ w ∧ w < 1000
theorem OkW.nums {ws : List Int} (h : OkW ws) : ∀ p ∈ ws.map num, p.length ≤ 6 := fun p hp => by
  obtain ⟨i, hi, rfl⟩ := List.mem_map.mp hp
  obtain ⟨h0, h1⟩ := h.2 i hi
  exact num_len h0 (by omega)
theorem OkW.len {ws : List Int} (h : OkW ws) : (wtx ws).length ≤ 200 := by
  have := join_len " " 6 (ws.map num) h.nums
  have e : ((" " : String) : Str).length = 1 := rfl
  rw [List.length_map, e] at this
  have := h.1
  unfold wtx
  omega
theorem sum_len (m : Nat) : ∀ ps : List Str, (∀ p ∈ ps, p.length ≤ m) → (ps.map (·.length)).sum ≤ ps.length * m
  | [], _ => Nat.zero_le _
  | p :: r, h => by
    have ih := sum_len m r fun x hx => h x (List.mem_cons_of_mem _ hx)
    have := h p (List.mem_cons_self ..)
    rw [List.map_cons, List.sum_cons, List.length_cons, Nat.add_mul]
    omega
theorem FtAll.strs {H : Hp} : ∀ {ns : List Str}, FtAll H (ns.map .str) (ns.map V.str)
  | [] => .nil
  | n :: _ => .cons (Ft.mkStr n) FtAll.strs
theorem FtAll.strs_eq {H : Hp} : ∀ {ns : List Str} {vs : List V}, FtAll H (ns.map .str) vs → vs = ns.map V.str
  | [], [], _ => rfl
  | _ :: _, _ :: _, h => by rw [h.un.1.str, h.un.2.strs_eq]; rfl
  | [], _ :: _, h => h.no1.elim
  | _ :: _, [], h => h.no2.elim
/-! ### the lines -/
def crashT (p : Int × List Int) : Str := (("crash at " ++ num p.1 : Str) ++ " with ") ++ wtx p.2
def repT (path : List (Int × List Int)) (m : List Int) : List Str := [(("unsafe: " ++ num path.length : Str) ++ " crashes")] ++ path.map crashT ++ [("found " ++ wtx m : Str)]
def safeT (n : Nat) : List Str := [(("safe: " ++ num n : Str) ++ " states")]
structure St3 where
  s : Int
  cs : List (List Int)
  ms : List (List Int)
def St3.d (x : St3) : PyData := .tuple [.int x.s, ct x.cs, ct x.ms]
def Rows (cs : List (List Int)) : Prop := cs.length ≤ 20 ∧ ∀ ws ∈ cs, OkW ws
def lineT (x : St3) : Str := (((("session " ++ num x.s : Str) ++ " disk ") ++ Str.join " | " (x.cs.map wtx)) ++ " allowed ") ++ Str.join ", " (x.ms.map wtx)
def St3.ok (x : St3) : Prop := 0 ≤ x.s ∧ x.s < 1000 ∧ Rows x.cs ∧ Rows x.ms
theorem Rows.txt {cs : List (List Int)} (h : Rows cs) : ∀ p ∈ cs.map wtx, p.length ≤ 200 := fun p hp => by
  obtain ⟨i, hi, rfl⟩ := List.mem_map.mp hp
  exact (h.2 i hi).len
theorem Rows.len {cs : List (List Int)} (h : Rows cs) (y : Str) (hy : y.length ≤ 3) : (Str.join y (cs.map wtx)).length ≤ 5000 := by
  have := join_len y 200 (cs.map wtx) h.txt
  rw [List.length_map] at this
  have h2 := h.1
  have : cs.length * (200 + y.length) ≤ 20 * 203 := Nat.mul_le_mul h2 (by omega)
  omega
def crD (p : Int × List Int) : PyData := .tuple [.int p.1, wd p.2]
def paD (path : List (Int × List Int)) : PyData := .tuple (path.map crD)
def PathOk (path : List (Int × List Int)) : Prop := path.length ≤ 20 ∧ ∀ p ∈ path, 0 ≤ p.1 ∧ p.1 < 1000 ∧ OkW p.2
end S16
namespace S16
open PySem L2
def spNumbers : Sp := fun vs H Q _ => ∃ (v : V) (ws : List Int), vs = [v] ∧ Ft H (wd ws) v ∧ OkW ws ∧ ∀ H', Chg [] [] H H' → Q (.str (wtx ws)) H'
def spLine : Sp := fun vs H Q _ => ∃ (v : V) (x : St3), vs = [v] ∧ Ft H x.d v ∧ x.ok ∧ ∀ H', Chg [] [] H H' → Q (.str (lineT x)) H'
def spLines (K : PySem.W.Frag) : Sp := fun vs H Q _ => ∃ (a : Addr) (vs' : List V) (xs : List St3), vs = [.ref a] ∧ H a = some (.lst vs') ∧ FtAll H (xs.map St3.d) vs' ∧ xs.length ≤ 100 ∧ (∀ x ∈ xs, x.ok) ∧ ∀ H' l, H l = none → LAt l H ((xs.map lineT).map .str) H' → Q (.ref l) H'
def spReport (K : PySem.W.Frag) : Sp := fun vs H Q _ => ∃ (p : Addr), vs = [.ref p] ∧
  ((∃ a xs, H p = some (.tup [.str "safe", .ref a]) ∧ H a = some (.lst xs) ∧ xs.length ≤ 1000 ∧ ∀ H' l, H' l = some (.lst ((safeT xs.length).map V.str)) → Chg [] [] H H' → Q (.ref l) H') ∨
   ∃ v w path m, H p = some (.tup [.str "unsafe", v, w]) ∧ Ft H (paD path) v ∧ Ft H (wd m) w ∧ PathOk path ∧ OkW m ∧ ∀ H' l, H' l = some (.lst ((repT path m).map V.str)) → Chg [] [] H H' → Q (.ref l) H')
/-- a comprehension over a tuple or list of data: the items' texts -/
theorem lc_txt {α : Type} {J : It} {H : Hp} {d : Addr} {xs : List α} {f : α → PyData} {n : Nat} {Qd : Hp → Prop} {B : V → Hp → (Hp → Prop) → Prop} (nd1 : H d = none) (hn : xs.length = n) (hn2 : n ≤ 1000)
    (hst : ∀ H', Chg [] [] H H' → J.stop n H') (hgo : ∀ i H', i < n → Chg [] [] H H' → J.go i H') (X : Nat → V → Prop) (hy : ∀ i H' x H'', i < n → Chg [] [] H H' → J.yld i H' x H'' → H'' = H' ∧ X i x)
    (hs : ∀ i x H' a, i < n → xs[i]? = some a → X i x → Chg [] [] H H' → H' d ≠ none → ∀ Nx : Hp → Prop, (∀ H4 y, Chg [] [] H' H4 → Ft H4 (f a) y → ∃ acc, H4 d = some (.lst acc) ∧ acc.length < sizeLine ∧ Nx (upd H4 d (.lst (acc ++ [y])))) → B x H' Nx)
    (hd : ∀ H', LAt d H (xs.map f) H' → Qd H') :
    ∃ W : Nat → Nat → Hp → Prop, (∃ m, W 0 m (upd H d (.lst []))) ∧ ∀ i m H', W i m H' →
      (J.stop i H' ∧ Qd H') ∨ (J.go i H' ∧ ∃ Nx : Hp → Prop, (∀ H', Nx H' → ∃ m', m' < m ∧ W (i + 1) m' H') ∧ ∀ x H1, J.yld i H' x H1 → B x H1 Nx) := by
  refine it_loop (n := n) (fun i H5 => LAt d H ((xs.take i).map f) H5) (LAt.start nd1) (fun H5 L5 => ⟨hst _ L5.chg, ?_⟩) (fun i H5 hi L5 => hgo i _ hi L5.chg) ?_
  · rw [List.take_of_length_le (by omega)] at L5
    exact hd _ L5
  · intro i x H5 H6 hi L5 yl
    obtain ⟨rfl, hx⟩ := hy i _ _ _ hi L5.chg yl
    have ha : xs[i]? = some (xs[i]'(by omega)) := List.getElem?_eq_getElem (by omega)
    generalize xs[i]'(by omega) = a at ha
    have hdn : H6 d ≠ none := by obtain ⟨acc, h1, _⟩ := L5; rw [h1]; intro z; cases z
    refine hs i x _ a hi ha hx L5.chg hdn _ fun H4 y c4 fy => ?_
    have := L5.push (e := f a) (y := y) nd1 c4 fy (by rw [List.length_map, List.length_take]; exact sl (by omega))
    rw [List.take_add_one, ha, List.map_append]
    exact this
section
variable {P : Program} {w : World} {K : PySem.W.Frag} {mg : Str → Option Value} {base : Heap} {D : Defs}
theorem sc_numbers : FnScope ["words", "word"] ["words"] (defScope s_numbers) := ⟨rfl, rfl, rfl, by decide +kernel, rfl, by decide +kernel, by decide +kernel⟩
theorem ok_numbers (O : Ok P K mg D) : FnOk P w K mg base CX0 1 D.fnumbers D.dnumbers ["words"] spNumbers := by
  refine O.Fnumbers.ok sc_numbers (fun vs H Q E h => ?_) (fun cdv A outer s H vs Q E hr h => ?_)
  · obtain ⟨v, ws, rfl, _⟩ := h
    rfl
  obtain ⟨v, ws, rfl, fv, ok, q⟩ := h
  have nd := sc_numbers.nd
  have hu := hu_of hr
  have bk : ∀ own scope, blkC ["words", "word"] (defScope s_numbers) scope own = true → BlkOk ["words", "word"] (defScope s_numbers) scope own := fun own scope h => blkOk_by h
  obtain ⟨p, rfl, hp⟩ := fv.ofWd
  refine ⟨_, (pss_one (ps_ret (pe_join pe_str (pe_lc (own := [("word", 1)]) (g := gName 1) (by rfl) nd (pi_tupK (K := K) (pv 0)) (bk [("word", 1)] _ (by decide +kernel)) (fun _ _ _ _ _ => (pg_name (i := 1) nd rfl (Or.inl rfl))) (fun _ _ _ _ _ => pts_nil) (fun _ _ _ _ _ => (pe_callTy call_str_int (by rfl) O.zstr (by decide +kernel) (pa_cons (pv 1) pa_nil))))))), ?_⟩
  refine ⟨⟨_, rfl⟩, _, rfl, p, rfl, ⟨_, SqT.of hp⟩, fun d nd1 => ?_⟩
  obtain ⟨j1, j2, j3⟩ := wk_tup (K := K) (fp := []) (H0 := H) (a := p) (xs := ws.map V.int) (Iv := fun _ _ => True) hp
  have hl : ws.length ≤ 20 := ok.1
  rw [List.length_map] at j1 j2 j3
  refine lc_txt (f := fun i => PyData.str (num i)) (xs := ws) nd1 rfl (by omega) (fun H' g => j1 H' g trivial) (fun i H' hi g => j2 i H' hi g trivial) _ (fun i H' x H'' hi g y => j3 i H' x H'' hi g trivial y) ?_ ?_
  · intro i x H' a hi ha hx g hdn Nx k
    rw [List.getElem?_map, ha] at hx
    cases hx
    obtain ⟨h0, h1⟩ := ok.2 a (List.mem_of_getElem? ha)
    refine ⟨rfl, yes (iteT ⟨_, rfl, a, rfl, num_log h0 (by omega), ?_⟩)⟩
    exact k H' (.str (num a)) (Chg.refl _ _) (Ft.mkStr _)
  · intro H' L
    obtain ⟨acc, h1, h2, h3⟩ := L
    have e : acc = (ws.map num).map V.str := by
      have e2 : (ws.map fun i => PyData.str (num i)) = (ws.map num).map .str := by rw [List.map_map]; rfl
      rw [e2] at h2
      exact h2.strs_eq
    refine ⟨_, d, _, rfl, rfl, .inl (SqL.of (by rw [h1, e])), ?_, ?_⟩
    · have := sum_len 6 _ ok.nums
      rw [List.length_map] at this
      rw [List.length_map]
      have e : ((" " : String) : Str).length = 1 := rfl
      rw [e]
      omega
    · rw [TL.join_eq]
      exact q H' h3
end
end S16
namespace S16
open PySem L2
section
variable {P : Program} {w : World} {K : PySem.W.Frag} {mg : Str → Option Value} {base : Heap} {D : Defs}
theorem slen {s : Str} {n : Nat} (h : s.length ≤ n) (h2 : n ≤ 10000000) : s.length ≤ sizeLine := Nat.le_of_lt (sl (Nat.le_trans h h2))
/-- sep.join of the texts of rows -/
theorem join_rows {H : Hp} {d : Addr} (y : Str) {cs : List (List Int)} {acc : List V} (hy : y.length ≤ 3) (ok : Rows cs) (h1 : H d = some (.lst acc)) (h2 : FtAll H (cs.map fun ws => PyData.str (wtx ws)) acc) :
    H d = some (.lst ((cs.map wtx).map V.str)) ∧ ((cs.map wtx).map (·.length)).sum + (cs.map wtx).length * y.length ≤ 16777216 ∧ Txt.join y (cs.map wtx) = Str.join y (cs.map wtx) := by
  have e : acc = (cs.map wtx).map V.str := by
    have e2 : (cs.map fun i => PyData.str (wtx i)) = (cs.map wtx).map .str := by rw [List.map_map]; rfl
    rw [e2] at h2
    exact h2.strs_eq
  refine ⟨by rw [h1, e], ?_, TL.join_eq _ _⟩
  have := sum_len 200 _ ok.txt
  rw [List.length_map] at this
  rw [List.length_map]
  have h3 := ok.1
  have : cs.length * 200 ≤ 20 * 200 := Nat.mul_le_mul h3 (Nat.le_refl _)
  have : cs.length * y.length ≤ 20 * 3 := Nat.mul_le_mul h3 hy
  omega
theorem rows_lc {J : It} {H : Hp} {d : Addr} {cs : List (List Int)} {vs : List V} {p : Addr} {Qd : Hp → Prop} {B : V → Hp → (Hp → Prop) → Prop} (nd1 : H d = none) (ok : Rows cs) (hp : H p = some (.tup vs)) (fv : FtAll H (cs.map wd) vs) (eJ : J = Itt K p)
    (hB : ∀ H' x ws, Chg [] [] H H' → Ft H' (wd ws) x → OkW ws → ∀ Nx : Hp → Prop, (∀ H4, Chg [] [] H' H4 → ∃ acc, H4 d = some (.lst acc) ∧ acc.length < sizeLine ∧ Nx (upd H4 d (.lst (acc ++ [.str (wtx ws)])))) → B x H' Nx)
    (hd : ∀ H' acc, H' d = some (.lst acc) → FtAll H' (cs.map fun ws => PyData.str (wtx ws)) acc → Chg [] [] H H' → Qd H') :
    ∃ W : Nat → Nat → Hp → Prop, (∃ m, W 0 m (upd H d (.lst []))) ∧ ∀ i m H', W i m H' →
      (J.stop i H' ∧ Qd H') ∨ (J.go i H' ∧ ∃ Nx : Hp → Prop, (∀ H', Nx H' → ∃ m', m' < m ∧ W (i + 1) m' H') ∧ ∀ x H1, J.yld i H' x H1 → B x H1 Nx) := by
  subst eJ
  obtain ⟨j1, j2, j3⟩ := wk_tup (K := K) (fp := []) (H0 := H) (a := p) (xs := vs) (Iv := fun _ _ => True) hp
  have lv := fv.len
  rw [List.length_map] at lv
  have hl := ok.1
  rw [lv] at j1 j2 j3
  refine lc_txt (f := fun ws => PyData.str (wtx ws)) (xs := cs) nd1 rfl (by omega) (fun H' g => j1 H' g trivial) (fun i H' hi g => j2 i H' hi g trivial) _ (fun i H' x H'' hi g y => j3 i H' x H'' hi g trivial y) ?_ ?_
  · intro i x H' a hi ha hx g hdn Nx k
    obtain ⟨x', hx', fx⟩ := fv.get (i := i) (d := wd a) (by rw [List.getElem?_map, ha]; rfl)
    rw [hx] at hx'
    cases hx'
    exact hB H' x a g (fx.mono g.tups) (ok.2 a (List.mem_of_getElem? ha)) Nx fun H4 c4 => k H4 _ c4 (Ft.mkStr _)
  · intro H' ⟨acc, h1, h2, h3⟩
    exact hd H' acc h1 h2 h3
theorem sc_state_line : FnScope ["state", "session", "left", "allowed", "disk", "mappings", "words", "mapping"] ["state"] (defScope s_state_line) := ⟨rfl, rfl, rfl, by decide +kernel, rfl, by decide +kernel, by decide +kernel⟩
theorem ok_line (O : Ok P K mg D) : FnOk P w K mg base CX0 2 D.fstate_line D.dstate_line ["state"] spLine := by
  have G_numbers : FnOk P w K mg base CX0 1 D.fnumbers D.dnumbers ["words"] spNumbers := ok_numbers O
  refine O.Fstate_line.ok sc_state_line (fun vs H Q E h => ?_) (fun cdv A outer s H vs Q E hr h => ?_)
  · obtain ⟨v, x, rfl, _⟩ := h
    rfl
  obtain ⟨v, x, rfl, fv, ok, q⟩ := h
  have nd := sc_state_line.nd
  have hu := hu_of hr
  have bk : ∀ own scope, blkC ["state", "session", "left", "allowed", "disk", "mappings", "words", "mapping"] (defScope s_state_line) scope own = true → BlkOk ["state", "session", "left", "allowed", "disk", "mappings", "words", "mapping"] (defScope s_state_line) scope own := fun own scope h => blkOk_by h
  obtain ⟨p, us, rfl, hp, fus⟩ := fv.tup
  obtain ⟨u1, us, rfl⟩ : ∃ a r, us = a :: r := by cases us with | nil => exact fus.no2.elim | cons a r => exact ⟨a, r, rfl⟩
  obtain ⟨f1, fus⟩ := fus.un
  obtain ⟨u2, us, rfl⟩ : ∃ a r, us = a :: r := by cases us with | nil => exact fus.no2.elim | cons a r => exact ⟨a, r, rfl⟩
  obtain ⟨f2, fus⟩ := fus.un
  obtain ⟨u3, us, rfl⟩ : ∃ a r, us = a :: r := by cases us with | nil => exact fus.no2.elim | cons a r => exact ⟨a, r, rfl⟩
  obtain ⟨f3, fus⟩ := fus.un
  obtain rfl : us = [] := by cases us with | nil => rfl | cons a r => exact fus.no1.elim
  obtain rfl := f1.int
  obtain ⟨pc, cv, rfl, hpc, fc⟩ := f2.tup
  obtain ⟨pm, mv, rfl, hpm, fm⟩ := f3.tup
  obtain ⟨s0, s1, okc, okm⟩ := ok
  refine ⟨_, (pss_cons (ps_asg (pv 0) (pg_tup rfl (pgs_cons (pg_name (i := 1) nd rfl (Or.inl rfl)) (pgs_cons (pg_name (i := 2) nd rfl (Or.inl rfl)) (pgs_cons (pg_name (i := 3) nd rfl (Or.inl rfl)) pgs_nil)))))
    (pss_cons (ps_set (i := 4) nd rfl (Or.inl rfl) (pe_join pe_str (pe_lc (own := [("words", 6)]) (g := gName 6) (by rfl) nd (pi_tupK (K := K) (pv 2)) (bk [("words", 6)] _ (by decide +kernel)) (fun _ _ _ _ _ => (pg_name (i := 6) nd rfl (Or.inl rfl))) (fun _ _ _ _ _ => pts_nil) (fun _ _ _ _ _ => (pe_call G_numbers (hr.mono (by omega)) rfl O.mnumbers O.Fnumbers.kp O.bnumbers .nil pass0 (pa_cons (pv 6) pa_nil))))))
    (pss_cons (ps_set (i := 5) nd rfl (Or.inl rfl) (pe_join pe_str (pe_lc (own := [("mapping", 7)]) (g := gName 7) (by rfl) nd (pi_tupK (K := K) (pv 3)) (bk [("mapping", 7)] _ (by decide +kernel)) (fun _ _ _ _ _ => (pg_name (i := 7) nd rfl (Or.inl rfl))) (fun _ _ _ _ _ => pts_nil) (fun _ _ _ _ _ => (pe_call G_numbers (hr.mono (by omega)) rfl O.mnumbers O.Fnumbers.kp O.bnumbers .nil pass0 (pa_cons (pv 7) pa_nil))))))
    (pss_one (ps_ret (pe_joined (.cons pe_str (.cons (pe_fmt (pv 1)) (.cons pe_str (.cons (pe_fmt (pv 4)) (.cons pe_str (.cons (pe_fmt (pv 5)) .nil)))))))))))), ?_⟩
  refine ⟨_, rfl, p, _, rfl, SqT.of hp, rfl, _, _, rfl, _, _, rfl, _, _, rfl, rfl, ?_⟩
  refine ⟨⟨_, rfl⟩, _, rfl, pc, rfl, ⟨_, SqT.of hpc⟩, fun d nd1 => ?_⟩
  refine rows_lc (K := K) nd1 okc hpc fc rfl ?_ ?_
  · intro H' y ws g fw okw Nx k
    refine ⟨rfl, yes (iteT ⟨_, rfl, y, ws, rfl, fw, okw, fun H4 c4 => ?_⟩)⟩
    exact k H4 c4
  intro H1 acc h1 h2 g1
  obtain ⟨a1, a2, a3⟩ := join_rows " | " (by decide) okc h1 h2
  refine ⟨_, d, _, rfl, rfl, .inl (SqL.of a1), a2, ?_⟩
  rw [a3]
  have hpm1 := g1.tups _ _ hpm
  have fm1 := fm.mono g1.tups
  refine ⟨⟨_, rfl⟩, _, rfl, pm, rfl, ⟨_, SqT.of hpm1⟩, fun d2 nd2 => ?_⟩
  refine rows_lc (K := K) nd2 okm hpm1 fm1 rfl ?_ ?_
  · intro H' y ws g fw okw Nx k
    refine ⟨rfl, yes (iteT ⟨_, rfl, y, ws, rfl, fw, okw, fun H4 c4 => ?_⟩)⟩
    exact k H4 c4
  intro H2 acc2 k1 k2 g2
  obtain ⟨b1, b2, b3⟩ := join_rows ", " (by decide) okm k1 k2
  refine ⟨_, d2, _, rfl, rfl, .inl (SqL.of b1), b2, ?_⟩
  rw [b3]
  have ls := num_len s0 (by omega)
  have lc := okc.len " | " (by decide)
  have lm := okm.len ", " (by decide)
  have z0 : Str.empty.length = 0 := rfl
  have z1 : (Str.ofString "session ").length = 8 := rfl
  have z2 : (Str.ofString " disk ").length = 6 := rfl
  have z3 : (Str.ofString " allowed ").length = 9 := rfl
  have zn : (Str.ofString (toString x.s)).length ≤ 6 := ls
  refine ⟨_, rfl, slen (n := 20000) ?_ (by decide), _, rfl, .inr ⟨_, rfl, num_log s0 (by omega), _, rfl, slen (n := 20000) ?_ (by decide), _, rfl, slen (n := 20000) ?_ (by decide), _, rfl, .inl ⟨_, rfl, slen (n := 20000) ?_ (by decide), _, rfl, slen (n := 20000) ?_ (by decide), _, rfl, slen (n := 20000) ?_ (by decide), _, rfl, .inl ⟨_, rfl, slen (n := 20000) ?_ (by decide), _, rfl, slen (n := 20000) ?_ (by decide), ?_⟩⟩⟩⟩
  rotate_right 1
  · have := q H2 (g1.trans g2)
    rw [emp_app]
    exact this
  all_goals (try simp only [strLen_append, z0, z1, z2, z3]); omega
end
end S16
namespace S16
open PySem L2
section
variable {P : Program} {w : World} {K : PySem.W.Frag} {mg : Str → Option Value} {base : Heap} {D : Defs}
theorem sc_state_lines : FnScope ["states", "state"] ["states"] (defScope s_state_lines) := ⟨rfl, rfl, rfl, by decide +kernel, rfl, by decide +kernel, by decide +kernel⟩
theorem ok_lines (O : Ok P K mg D) : FnOk P w K mg base CX0 3 D.fstate_lines D.dstate_lines ["states"] (spLines K) := by
  have G_state_line : FnOk P w K mg base CX0 2 D.fstate_line D.dstate_line ["state"] spLine := ok_line O
  refine O.Fstate_lines.ok sc_state_lines (fun vs H Q E h => ?_) (fun cdv A outer s H vs Q E hr h => ?_)
  · obtain ⟨v, x, _, rfl, _⟩ := h
    rfl
  obtain ⟨a, us, xs, rfl, ha, fv, hl, ok, q⟩ := h
  have nd := sc_state_lines.nd
  have hu := hu_of hr
  have bk : ∀ own scope, blkC ["states", "state"] (defScope s_state_lines) scope own = true → BlkOk ["states", "state"] (defScope s_state_lines) scope own := fun own scope h => blkOk_by h
  refine ⟨_, (pss_one (ps_ret (pe_lc (own := [("state", 1)]) (g := gName 1) (by rfl) nd (pi_listK (K := K) (pv 0)) (bk [("state", 1)] _ (by decide +kernel)) (fun _ _ _ _ _ => (pg_name (i := 1) nd rfl (Or.inl rfl))) (fun _ _ _ _ _ => pts_nil) (fun _ _ _ _ _ => (pe_call G_state_line (hr.mono (by omega)) rfl O.mstate_line O.Fstate_line.kp O.bstate_line .nil pass0 (pa_cons (pv 1) pa_nil)))))), ?_⟩
  refine ⟨_, rfl, a, rfl, ⟨_, SqL.of ha⟩, fun d nd1 => ?_⟩
  have lv := fv.len
  rw [List.length_map] at lv
  obtain ⟨j1, j2, j3⟩ := wk_list (K := K) (fp := []) (H0 := H) (a := a) (xs := us) (Iv := fun _ _ => True) (fun i H' g _ => SqL.of (g.keep _ _ ha (by intro h; cases h)))
  rw [lv] at j1 j2 j3
  refine lc_txt (f := fun x => PyData.str (lineT x)) (xs := xs) nd1 rfl (by omega) (fun H' g => j1 H' g trivial) (fun i H' hi g => j2 i H' hi g trivial) _ (fun i H' x H'' hi g y => j3 i H' x H'' hi g trivial y) ?_ ?_
  · intro i x H' b hi hb hx g hdn Nx k
    obtain ⟨x', hx', fx⟩ := fv.get (i := i) (d := b.d) (by rw [List.getElem?_map, hb]; rfl)
    rw [hx] at hx'
    cases hx'
    refine ⟨rfl, yes (iteT ⟨_, rfl, x, b, rfl, fx.mono g.tups, ok b (List.mem_of_getElem? hb), fun H4 c4 => ?_⟩)⟩
    exact k H4 _ c4 (Ft.mkStr _)
  · intro H' L
    refine q H' d nd1 ?_
    rw [List.map_map]
    exact L
theorem len_pair (n : Nat) : ((n : Nat) : Int) = (n : Int) := rfl
theorem sc_report : FnScope ["verdict", "_", "path", "mapping", "crashes", "cut", "row"] ["verdict"] (defScope s_report) := ⟨rfl, rfl, rfl, by decide +kernel, rfl, by decide +kernel, by decide +kernel⟩
theorem ok_report (O : Ok P K mg D) : FnOk P w K mg base CX0 2 D.freport D.dreport ["verdict"] (spReport K) := by
  have G_numbers : FnOk P w K mg base CX0 1 D.fnumbers D.dnumbers ["words"] spNumbers := ok_numbers O
  refine O.Freport.ok sc_report (fun vs H Q E h => ?_) (fun cdv A outer s H vs Q E hr h => ?_)
  · obtain ⟨v, rfl, _⟩ := h
    rfl
  obtain ⟨p, rfl, h⟩ := h
  have nd := sc_report.nd
  have hu := hu_of hr
  have bk : ∀ own scope, blkC ["verdict", "_", "path", "mapping", "crashes", "cut", "row"] (defScope s_report) scope own = true → BlkOk ["verdict", "_", "path", "mapping", "crashes", "cut", "row"] (defScope s_report) scope own := fun own scope h => blkOk_by h
  have z0 : Str.empty.length = 0 := rfl
  refine ⟨_, (pss_cons (ps_if (pt_cmpR op_eq (pe_ix (r := rIxT K) ix_tup (pv 0) pe_int (fun _ _ => rfl)) pe_str (nomark _)) (pss_one (ps_ret (pe_lst (pa_cons (pe_joined (.cons pe_str (.cons (pe_fmt (pe_callB (r := rLenQ K) call_lenK (by rfl) O.zlen PySem.boot_len (pa_cons (pe_ix (r := rIxT K) ix_tup (pv 0) pe_int (fun _ _ => rfl)) pa_nil))) (.cons pe_str .nil)))) pa_nil)))) pss_nil)
    (pss_cons (ps_asg (pv 0) (pg_tup rfl (pgs_cons (pg_name (i := 1) nd rfl (Or.inl rfl)) (pgs_cons (pg_name (i := 2) nd rfl (Or.inl rfl)) (pgs_cons (pg_name (i := 3) nd rfl (Or.inl rfl)) pgs_nil)))))
    (pss_cons (ps_setLc (i := 4) (own := [("cut", 5), ("row", 6)]) (g := gTup K 2 (gCons (gName 5) (gCons (gName 6) gNil))) (by rfl) nd rfl rfl (sw_true rfl rfl rfl (by decide +kernel)) (pi_tupK (K := K) (pv 2)) (bk [("cut", 5), ("row", 6)] _ (by decide +kernel)) (fun _ _ _ _ _ => (pg_tup rfl (pgs_cons (pg_name (i := 5) nd rfl (Or.inl rfl)) (pgs_cons (pg_name (i := 6) nd rfl (Or.inl rfl)) pgs_nil)))) (fun _ _ _ _ _ => pts_nil) (fun _ _ _ _ _ => (pe_joined (.cons pe_str (.cons (pe_fmt (pv 5)) (.cons pe_str (.cons (pe_fmt (pe_call G_numbers (hr.mono (by omega)) rfl O.mnumbers O.Fnumbers.kp O.bnumbers .nil pass0 (pa_cons (pv 6) pa_nil))) .nil)))))))
    (pss_one (ps_ret (pe_op op_cat (pe_op op_cat (pe_lst (pa_cons (pe_joined (.cons pe_str (.cons (pe_fmt (pe_callB (r := rLenQ K) call_lenK (by rfl) O.zlen PySem.boot_len (pa_cons (pv 2) pa_nil))) (.cons pe_str .nil)))) pa_nil)) (pv 4)) (pe_lst (pa_cons (pe_joined (.cons pe_str (.cons (pe_fmt (pe_call G_numbers (hr.mono (by omega)) rfl O.mnumbers O.Fnumbers.kp O.bnumbers .nil pass0 (pa_cons (pv 3) pa_nil))) .nil))) pa_nil)))))))), ?_⟩
  rcases h with ⟨a, xs, hp, ha, hl, q⟩ | ⟨v, u, path, m, hp, fv, fm, okp, okm, q⟩
  · have z1 : (Str.ofString "safe: ").length = 6 := rfl
    have z2 : (Str.ofString " states").length = 7 := rfl
    have zn : (Str.ofString (toString ((xs.length : Nat) : Int))).length ≤ 6 := num_len (by omega) (by omega)
    refine ⟨_, rfl, p, _, 0, _, rfl, rfl, SqT.of hp, rfl, rfl, _, rfl, iteT ?_⟩
    refine ⟨_, rfl, slen (n := 20000) ?_ (by decide), _, rfl, p, _, 1, _, rfl, rfl, SqT.of hp, rfl, a, _, rfl, .inl (SqL.of ha), .inr ⟨_, rfl, num_log (by omega) (by omega), _, rfl, slen (n := 20000) ?_ (by decide), _, rfl, slen (n := 20000) ?_ (by decide), (by show 1 ≤ sizeLine; decide), fun l nl => ?_⟩⟩
    rotate_right 1
    · refine q _ l ?_ (Chg.mk0 nl _)
      rw [emp_app]
      exact upd_same
    all_goals (try simp only [strLen_append, z0, z1, z2]); omega
  · obtain ⟨pp, pv', rfl, hpp, fpp⟩ := fv.tup
    have lp := fpp.len
    rw [List.length_map] at lp
    have okl := okp.1
    refine ⟨_, rfl, p, _, 0, _, rfl, rfl, SqT.of hp, rfl, rfl, _, rfl, iteF ?_⟩
    refine ⟨_, rfl, p, _, rfl, SqT.of hp, rfl, _, _, rfl, _, _, rfl, _, _, rfl, rfl, ?_⟩
    refine ⟨_, rfl, pp, rfl, ⟨_, SqT.of hpp⟩, fun d nd1 => ?_⟩
    obtain ⟨j1, j2, j3⟩ := wk_tup (K := K) (fp := []) (H0 := H) (a := pp) (xs := pv') (Iv := fun _ _ => True) hpp
    rw [lp] at j1 j2 j3
    refine lc_txt (f := fun x => PyData.str (crashT x)) (xs := path) nd1 rfl (by omega) (fun H' g => j1 H' g trivial) (fun i H' hi g => j2 i H' hi g trivial) _ (fun i H' x H'' hi g y => j3 i H' x H'' hi g trivial y) ?_ ?_
    · intro i x H' b hi hb hx g hdn Nx k
      obtain ⟨x', hx', fx⟩ := fpp.get (i := i) (d := crD b) (by rw [List.getElem?_map, hb]; rfl)
      rw [hx] at hx'
      cases hx'
      have fx := fx.mono g.tups
      obtain ⟨pc, us, rfl, hpc, fus⟩ := fx.tup
      obtain ⟨u1, us, rfl⟩ : ∃ a r, us = a :: r := by cases us with | nil => exact fus.no2.elim | cons a r => exact ⟨a, r, rfl⟩
      obtain ⟨f1, fus⟩ := fus.un
      obtain ⟨u2, us, rfl⟩ : ∃ a r, us = a :: r := by cases us with | nil => exact fus.no2.elim | cons a r => exact ⟨a, r, rfl⟩
      obtain ⟨f2, fus⟩ := fus.un
      obtain rfl : us = [] := by cases us with | nil => rfl | cons a r => exact fus.no1.elim
      obtain rfl := f1.int
      obtain ⟨b0, b1, okb⟩ := okp.2 b (List.mem_of_getElem? hb)
      have z1 : (Str.ofString "crash at ").length = 9 := rfl
      have z2 : (Str.ofString " with ").length = 6 := rfl
      have zn : (Str.ofString (toString b.1)).length ≤ 6 := num_len b0 (by omega)
      have lw := okb.len
      refine ⟨pc, _, rfl, SqT.of hpc, rfl, _, _, rfl, _, _, rfl, rfl, rfl, yes (iteT ?_)⟩
      refine ⟨_, rfl, slen (n := 20000) ?_ (by decide), _, rfl, .inr ⟨_, rfl, num_log b0 (by omega), _, rfl, slen (n := 20000) ?_ (by decide), _, rfl, slen (n := 20000) ?_ (by decide), _, rfl, _, _, rfl, f2, okb, fun H4 c4 => .inl ⟨_, rfl, slen (n := 20000) ?_ (by decide), _, rfl, slen (n := 20000) ?_ (by decide), ?_⟩⟩⟩
      rotate_right 1
      · refine k H4 _ c4 ?_
        rw [emp_app]
        exact Ft.mkStr _
      all_goals (try simp only [strLen_append, z0, z1, z2]); omega
    · intro H1 ⟨acc, h1, h2, g1⟩
      have z1 : (Str.ofString "unsafe: ").length = 8 := rfl
      have z2 : (Str.ofString " crashes").length = 8 := rfl
      have z3 : (Str.ofString "found ").length = 6 := rfl
      have zn : (Str.ofString (toString ((pv'.length : Nat) : Int))).length ≤ 6 := num_len (by omega) (by omega)
      have lw := okm.len
      have e : acc = (path.map crashT).map V.str := by
        have e2 : (path.map fun i => PyData.str (crashT i)) = (path.map crashT).map .str := by rw [List.map_map]; rfl
        rw [e2] at h2
        exact h2.strs_eq
      subst e
      have hpp1 := g1.tups _ _ hpp
      refine ⟨_, rfl, slen (n := 20000) ?_ (by decide), _, rfl, pp, _, rfl, .inr (SqT.of hpp1), .inr ⟨_, rfl, num_log (by omega) (by omega), _, rfl, slen (n := 20000) ?_ (by decide), _, rfl, slen (n := 20000) ?_ (by decide), (by show 1 ≤ sizeLine; decide), fun l1 nl1 => ?_⟩⟩
      rotate_right 1
      · have h1' := (upd_ne (o := .lst [.str (((Str.empty ++ Str.ofString "unsafe: ") ++ Str.ofString (toString ((pv'.length : Nat) : Int))) ++ Str.ofString " crashes")]) (ne_of_none h1 nl1)).trans h1
        refine ⟨_, rfl, l1, d, _, _, rfl, rfl, upd_same, h1', ?_, fun l2 nl2 => ?_⟩
        · simp only [List.length_map, List.length_cons, List.length_nil]
          exact slen' (by omega)
        have c2 := (Chg.mk0 (fp := []) nl1 (.lst [V.str (((Str.empty ++ Str.ofString "unsafe: ") ++ Str.ofString (toString ((pv'.length : Nat) : Int))) ++ Str.ofString " crashes")])).trans (Chg.mk0 nl2 (.lst ([V.str (((Str.empty ++ Str.ofString "unsafe: ") ++ Str.ofString (toString ((pv'.length : Nat) : Int))) ++ Str.ofString " crashes")] ++ (path.map crashT).map V.str)))
        refine ⟨_, rfl, slen (n := 20000) ?_ (by decide), _, rfl, _, _, rfl, fm.mono (g1.trans c2).tups, okm, fun H4 c4 => .inl ⟨_, rfl, slen (n := 20000) ?_ (by decide), _, rfl, slen (n := 20000) ?_ (by decide), (by show 1 ≤ sizeLine; decide), fun l3 nl3 => ?_⟩⟩
        rotate_right 1
        · have h2' := c4.keep _ _ (upd_same (H := upd H1 l1 _) (a := l2)) (by intro h; cases h)
          refine ⟨l2, l3, _, _, rfl, rfl, (upd_ne (ne_of_none h2' nl3)).trans h2', upd_same, ?_, fun l4 nl4 => ?_⟩
          · simp only [List.length_append, List.length_map, List.length_cons, List.length_nil]
            exact slen' (by omega)
          refine q _ l4 ?_ (((g1.trans c2).trans c4).trans ((Chg.mk0 nl3 _).trans (Chg.mk0 nl4 _)))
          rw [upd_same, emp_app, emp_app]
          unfold repT
          rw [lp]
          simp only [List.map_append, List.map_cons, List.map_nil]
          rfl
        all_goals (try simp only [strLen_append, z0, z1, z2, z3]); omega
      all_goals (try simp only [strLen_append, z0, z1, z2, z3]); omega
where slen' {n : Nat} (h : n ≤ 10000) : n ≤ sizeLine := Nat.le_of_lt (sl (by omega))
end
end S16
namespace S16
open PySem L2
theorem each_wdf {H : Hp} {α : Type} {f : α → PyData} : ∀ {zs : List α} {acc : List V}, Each (fun H z v => Ft H (f z) v) H zs acc → FtAll H (zs.map f) acc
  | [], [], _ => .nil
  | _ :: _, _ :: _, ⟨h1, h2⟩ => .cons h1 (each_wdf h2)
  | [], _ :: _, h => h.elim
  | _ :: _, [], h => h.elim
/-- a comprehension over a range, its elements drawn data -/
theorem lc_drawn {α : Type} {f : α → PyData} {Pz : α → Prop} {st c d : Addr} {H : Hp} {n : Nat} {Qd : Hp → Prop} {B : V → Hp → (Hp → Prop) → Prop} (S : StAt H st c) (nd : H d = none) (hn : n ≤ 1000)
    (hB : ∀ (i : Nat) (H1 : Hp) (Nx : Hp → Prop), i < n → StAt H1 st c → Chg [st, c] [st, c] H H1 → (∀ v H2 z, Chg [st, c] [st, c] H1 H2 → StAt H2 st c → Ft H2 (f z) v → Pz z → ∃ acc, H2 d = some (.lst acc) ∧ acc.length < sizeLine ∧ Nx (upd H2 d (.lst (acc ++ [v])))) → B (.int (0 + (i : Int))) H1 Nx)
    (hd : ∀ (H' : Hp) (zs : List α) (acc : List V), Chg [st, c] [st, c] H H' → StAt H' st c → H' d = some (.lst acc) → FtAll H' (zs.map f) acc → zs.length = n → (∀ z ∈ zs, Pz z) → Qd H') :
    ∃ W : Nat → Nat → Hp → Prop, (∃ m, W 0 m (upd H d (.lst []))) ∧ ∀ i m H', W i m H' →
      ((Itr 0 n).stop i H' ∧ Qd H') ∨ ((Itr 0 n).go i H' ∧ ∃ Nx : Hp → Prop, (∀ H', Nx H' → ∃ m', m' < m ∧ W (i + 1) m' H') ∧ ∀ x H1, (Itr 0 n).yld i H' x H1 → B x H1 Nx) := by
  obtain ⟨f1, f2⟩ := S.free nd
  obtain ⟨j1, j2, j3⟩ := wk_range (fp := [st, c]) (H0 := H) (n := n) (Iv := fun _ H => StAt H st c)
  refine lc_chg (α := α) (fun H z v => Ft H (f z) v) (fun _ H => StAt H st c) (fun _ z => Pz z) (fun _ _ _ _ _ t h => h.mono t) nd (no2 f1 f2) (by omega) (fun _ _ _ S _ => stAt_upd S f1 f2) S j1 j2 j3 ?_ ?_
  · intro i x H1 acc hi hx g S1 hacc Nx k
    subst hx
    exact hB i H1 Nx hi S1 g fun v H2 z g2 S2 fz pz => k v H2 z g2 S2 fz pz
  · intro H' zs acc g S' hacc he hl hz
    refine hd H' zs acc g S' hacc (each_wdf he) hl fun z hz' => ?_
    obtain ⟨i, hi⟩ := List.getElem?_of_mem hz'
    exact hz i z hi
def spRow : Sp := fun vs H Q _ => ∃ (st c : Addr) (many most : Int), vs = [.ref st, .int many, .int most] ∧ StAt H st c ∧ 0 ≤ many ∧ many ≤ 20 ∧ 1 ≤ most ∧ most ≤ 1000 ∧
  ∀ ws v H', ws.length = many.toNat → OkW ws → Ft H' (wd ws) v → Chg [st, c] [st, c] H H' → StAt H' st c → Q v H'
def spLWords : Sp := fun vs H Q _ => ∃ (v : V) (ws : List Int), vs = [v] ∧ Ft H (wd ws) v ∧ OkW ws ∧ Q (.str (wtx ws)) H
def spLLine : Sp := fun vs H Q _ => ∃ (v : V) (x : St3), vs = [v] ∧ Ft H x.d v ∧ x.ok ∧ Q (.str (lineT x)) H
section
variable {P : Program} {w : World} {K : PySem.W.Frag} {mg : Str → Option Value} {base : Heap} {D : Defs}
theorem sc__law_row : FnScope ["state", "many", "most", "k"] ["state", "many", "most"] (defScope s__law_row) := ⟨rfl, rfl, rfl, by decide +kernel, rfl, by decide +kernel, by decide +kernel⟩
theorem ok_row (O : Ok P K mg D) : FnOk P w K mg base CX0 2 D.f_law_row D.d_law_row ["state", "many", "most"] spRow := by
  have G__law_draw : FnOk P w K mg base CX0 1 D.f_law_draw D.d_law_draw ["state", "many"] spDraw := ok_draw O
  refine O.F_law_row.ok sc__law_row (fun vs H Q E h => ?_) (fun cdv A outer s H vs Q E hr h => ?_)
  · obtain ⟨st, c, n, m, rfl, _⟩ := h
    rfl
  obtain ⟨st, c, n, m, rfl, S, h0, h1, m0, m1, q⟩ := h
  have nd := sc__law_row.nd
  have hu := hu_of hr
  have bk : ∀ own scope, blkC ["state", "many", "most", "k"] (defScope s__law_row) scope own = true → BlkOk ["state", "many", "most", "k"] (defScope s__law_row) scope own := fun own scope h => blkOk_by h
  refine ⟨_, (pss_one (ps_ret (pe_callTy (r := rTupOf K) call_tupK (by rfl) O.ztuple PyProof.Rows.boot_tuple (pa_cons (pe_lc (own := [("k", 3)]) (g := gName 3) (by rfl) nd (pi_range1 (by rfl) O.zrange (pa_cons (pv 1) pa_nil)) (bk [("k", 3)] _ (by decide +kernel)) (fun _ _ _ _ _ => (pg_name (i := 3) nd rfl (Or.inl rfl))) (fun _ _ _ _ _ => pts_nil) (fun _ _ _ _ _ => (pe_call G__law_draw (hr.mono (by omega)) rfl O.m_law_draw O.F_law_draw.kp O.b_law_draw .nil pass0 (pa_cons (pv 0) (pa_cons (pv 2) pa_nil))))) pa_nil)))), ?_⟩
  refine ⟨_, rfl, n, rfl, by omega, by omega, fun d nd1 => ?_⟩
  refine lc_drawn (α := Int) (f := .int) (Pz := fun z => 0 ≤ z ∧ z < m) S nd1 (by omega) ?_ ?_
  · intro i H1 Nx hi S1 g k
    refine ⟨rfl, yes (iteT ⟨_, rfl, _, rfl, st, c, m, rfl, S1, by omega, by omega, fun r H2 r0 r1 g2 => ?_⟩)⟩
    exact k _ _ r (g2.chg S1) g2.st (Ft.mkInt r) ⟨r0, r1⟩
  · intro H' ws acc g S' hacc hf hl hz
    refine ⟨d, acc, rfl, .inl ⟨SqL.of hacc, fun t nt => ?_⟩⟩
    have k1 := Chg.mk0 (fp := [st, c]) nt (.tup acc)
    refine q ws (.ref t) _ hl ⟨by omega, fun w hw => ?_⟩ (Ft.mkTup upd_same (hf.mono k1.tups)) (g.trans k1) ?_
    · obtain ⟨a, b⟩ := hz w hw
      exact ⟨a, by omega⟩
    · exact (Go.new S' nt _).1.st
theorem sc__law_words : FnScope ["row", "text", "word"] ["row"] (defScope s__law_words) := ⟨rfl, rfl, rfl, by decide +kernel, rfl, by decide +kernel, by decide +kernel⟩
theorem ok_lwords (O : Ok P K mg D) : FnOk P w K mg base CX0 1 D.f_law_words D.d_law_words ["row"] spLWords := by
  refine O.F_law_words.ok sc__law_words (fun vs H Q E h => ?_) (fun cdv A outer s H vs Q E hr h => ?_)
  · obtain ⟨v, ws, rfl, _⟩ := h
    rfl
  obtain ⟨v, ws, rfl, fv, ok, q⟩ := h
  have nd := sc__law_words.nd
  have hu := hu_of hr
  have bk : ∀ own scope, blkC ["row", "text", "word"] (defScope s__law_words) scope own = true → BlkOk ["row", "text", "word"] (defScope s__law_words) scope own := fun own scope h => blkOk_by h
  obtain ⟨p, rfl, hp⟩ := fv.ofWd
  have z1 : (Str.ofString " ").length = 1 := rfl
  have hl := ok.1
  refine ⟨_, (pss_cons (ps_set (i := 1) nd rfl (Or.inl rfl) pe_str)
    (pss_cons (ps_for PassesOwn.never rfl (pi_tupK (K := K) (pv 0)) (pg_name (i := 2) nd rfl (Or.inl rfl)) (pss_one (ps_set (i := 1) nd rfl (Or.inl rfl) (pe_op op_add_str (pe_op op_add_str (pv 1) pe_str) (pe_callTy call_str_int (by rfl) O.zstr (by decide +kernel) (pa_cons (pv 2) pa_nil))))))
    (pss_one (ps_ret (pe_slice (r := rSlS) sl_str (pv 1) (po_some pe_int) po_none))))), ?_⟩
  refine ⟨_, rfl, p, rfl, ⟨_, SqT.of hp⟩, for_tup (K := K) (a := p) (xs := ws.map V.int) (fun i σ H' => ∃ x2, σ = [some (.ref p), some (.str (gl " " ((ws.take i).map num))), x2] ∧ H' = H) ⟨none, rfl, rfl⟩ (fun i σ H' _ ⟨_, _, e⟩ => by rw [e]; exact SqT.of hp) ?_ ?_⟩
  · rintro i x σ H' hi ⟨x2, rfl, rfl⟩
    rw [List.getElem?_map] at hi
    obtain ⟨n, hn, rfl⟩ := Option.map_eq_some_iff.mp hi
    obtain ⟨n0, n1⟩ := ok.2 n (List.mem_of_getElem? hn)
    have l1 := gl_len " " 6 ((ws.take i).map num) fun p hp => ok.nums p (by
      obtain ⟨j, hj, rfl⟩ := List.mem_map.mp hp
      exact List.mem_map.mpr ⟨j, List.mem_of_mem_take hj, rfl⟩)
    rw [z1, List.length_map, List.length_take] at l1
    have l2 := num_len n0 (by omega)
    have l3 : i < ws.length := (List.getElem?_eq_some_iff.mp hn).1
    have e1 : ((gl " " ((ws.take i).map num)) ++ (" " : Str) : Str).length ≤ 150 := by rw [strLen_append, z1]; omega
    refine ⟨_, rfl, _, _, rfl, rfl, Nat.le_of_lt (sl (by rw [z1]; omega)), _, rfl, n, rfl, num_log n0 (by omega), _, _, rfl, rfl, Nat.le_of_lt (sl ?_), ?_⟩
    · have : (Str.ofString (toString n)).length ≤ 6 := l2
      omega
    · refine ⟨some (.int n), ?_, rfl⟩
      rw [List.take_add_one, hn, List.map_append]
      have eg := gl_snoc " " ((ws.take i).map num) (num n)
      show _ = [some (V.ref p), some (V.str (gl " " ((ws.take i).map num ++ [num n]))), _]
      rw [eg]
      rfl
  · rintro σ H' ⟨x2, rfl, rfl⟩
    rw [List.length_map, List.take_length]
    have l1 := gl_len " " 6 (ws.map num) ok.nums
    rw [z1, List.length_map] at l1
    refine ⟨_, rfl, _, rfl, _, rfl, slen (n := 1000) (by omega) (by decide), ?_⟩
    have e := cut_gl " " (ws.map num)
    rw [z1] at e
    rw [show cutS (gl " " (ws.map num)) (some (1 : Int)) none = wtx ws from e]
    exact q
end
end S16
namespace S16
open PySem L2
section
variable {P : Program} {w : World} {K : PySem.W.Frag} {mg : Str → Option Value} {base : Heap} {D : Defs}
theorem gl_rows (y : Str) (hy : y.length ≤ 3) {cs : List (List Int)} (ok : Rows cs) (i : Nat) : (gl y ((cs.take i).map wtx)).length ≤ 5000 := by
  have l1 := gl_len y 200 ((cs.take i).map wtx) fun p hp => ok.txt p (by
    obtain ⟨j, hj, rfl⟩ := List.mem_map.mp hp
    exact List.mem_map.mpr ⟨j, List.mem_of_mem_take hj, rfl⟩)
  rw [List.length_map, List.length_take] at l1
  have h2 := ok.1
  have : min i cs.length * (200 + y.length) ≤ 20 * 203 := Nat.mul_le_mul (by omega) (by omega)
  omega
theorem sc__law_state_line : FnScope ["one", "disk", "row", "maps", "mapping"] ["one"] (defScope s__law_state_line) := ⟨rfl, rfl, rfl, by decide +kernel, rfl, by decide +kernel, by decide +kernel⟩
theorem ok_lline (O : Ok P K mg D) : FnOk P w K mg base CX0 2 D.f_law_state_line D.d_law_state_line ["one"] spLLine := by
  have G__law_words : FnOk P w K mg base CX0 1 D.f_law_words D.d_law_words ["row"] spLWords := ok_lwords O
  refine O.F_law_state_line.ok sc__law_state_line (fun vs H Q E h => ?_) (fun cdv A outer s H vs Q E hr h => ?_)
  · obtain ⟨v, x, rfl, _⟩ := h
    rfl
  obtain ⟨v, x, rfl, fv, ok, q⟩ := h
  have nd := sc__law_state_line.nd
  have hu := hu_of hr
  have bk : ∀ own scope, blkC ["one", "disk", "row", "maps", "mapping"] (defScope s__law_state_line) scope own = true → BlkOk ["one", "disk", "row", "maps", "mapping"] (defScope s__law_state_line) scope own := fun own scope h => blkOk_by h
  obtain ⟨p, us, rfl, hp, fus⟩ := fv.tup
  obtain ⟨u1, us, rfl⟩ : ∃ a r, us = a :: r := by cases us with | nil => exact fus.no2.elim | cons a r => exact ⟨a, r, rfl⟩
  obtain ⟨f1, fus⟩ := fus.un
  obtain ⟨u2, us, rfl⟩ : ∃ a r, us = a :: r := by cases us with | nil => exact fus.no2.elim | cons a r => exact ⟨a, r, rfl⟩
  obtain ⟨f2, fus⟩ := fus.un
  obtain ⟨u3, us, rfl⟩ : ∃ a r, us = a :: r := by cases us with | nil => exact fus.no2.elim | cons a r => exact ⟨a, r, rfl⟩
  obtain ⟨f3, fus⟩ := fus.un
  obtain rfl : us = [] := by cases us with | nil => rfl | cons a r => exact fus.no1.elim
  obtain rfl := f1.int
  obtain ⟨pc, cv, rfl, hpc, fc⟩ := f2.tup
  obtain ⟨pm, mv, rfl, hpm, fm⟩ := f3.tup
  obtain ⟨s0, s1, okc, okm⟩ := ok
  have z1 : (Str.ofString " | ").length = 3 := rfl
  have z2 : (Str.ofString ", ").length = 2 := rfl
  have z3 : (Str.ofString "session ").length = 8 := rfl
  have z4 : (Str.ofString " disk ").length = 6 := rfl
  have z5 : (Str.ofString " allowed ").length = 9 := rfl
  refine ⟨_, (pss_cons (ps_set (i := 1) nd rfl (Or.inl rfl) pe_str)
    (pss_cons (ps_for PassesOwn.never rfl (pi_tupK (K := K) (pe_ix (r := rIxT K) ix_tup (pv 0) pe_int (fun _ _ => rfl))) (pg_name (i := 2) nd rfl (Or.inl rfl)) (pss_one (ps_set (i := 1) nd rfl (Or.inl rfl) (pe_op op_add_str (pe_op op_add_str (pv 1) pe_str) (pe_call G__law_words (hr.mono (by omega)) rfl O.m_law_words O.F_law_words.kp O.b_law_words .nil pass0 (pa_cons (pv 2) pa_nil))))))
    (pss_cons (ps_set (i := 3) nd rfl (Or.inl rfl) pe_str)
    (pss_cons (ps_for PassesOwn.never rfl (pi_tupK (K := K) (pe_ix (r := rIxT K) ix_tup (pv 0) pe_int (fun _ _ => rfl))) (pg_name (i := 4) nd rfl (Or.inl rfl)) (pss_one (ps_set (i := 3) nd rfl (Or.inl rfl) (pe_op op_add_str (pe_op op_add_str (pv 3) pe_str) (pe_call G__law_words (hr.mono (by omega)) rfl O.m_law_words O.F_law_words.kp O.b_law_words .nil pass0 (pa_cons (pv 4) pa_nil))))))
    (pss_one (ps_ret (pe_op op_add_str (pe_op op_add_str (pe_op op_add_str (pe_op op_add_str (pe_op op_add_str pe_str (pe_callTy call_str_int (by rfl) O.zstr (by decide +kernel) (pa_cons (pe_ix (r := rIxT K) ix_tup (pv 0) pe_int (fun _ _ => rfl)) pa_nil))) pe_str) (pe_slice (r := rSlS) sl_str (pv 1) (po_some pe_int) po_none)) pe_str) (pe_slice (r := rSlS) sl_str (pv 3) (po_some pe_int) po_none)))))))), ?_⟩
  have lc := fc.len
  rw [List.length_map] at lc
  have lm := fm.len
  rw [List.length_map] at lm
  refine ⟨_, rfl, p, _, 1, _, rfl, rfl, SqT.of hp, rfl, pc, rfl, ⟨_, SqT.of hpc⟩, for_tup (K := K) (a := pc) (xs := cv) (fun i σ H' => ∃ x2, σ = [some (.ref p), some (.str (gl " | " ((x.cs.take i).map wtx))), x2, none, none] ∧ H' = H) ⟨none, rfl, rfl⟩ (fun i σ H' _ ⟨_, _, e⟩ => by rw [e]; exact SqT.of hpc) ?_ ?_⟩
  · rintro i y σ H' hi ⟨x2, rfl, rfl⟩
    have hlt : i < cv.length := (List.getElem?_eq_some_iff.mp hi).1
    have ha : x.cs[i]? = some (x.cs[i]'(by omega)) := List.getElem?_eq_getElem (by omega)
    generalize x.cs[i]'(by omega) = a at ha
    obtain ⟨y', hy', fy⟩ := fc.get (i := i) (d := wd a) (by rw [List.getElem?_map, ha]; rfl)
    rw [hi] at hy'
    cases hy'
    have oka := okc.2 a (List.mem_of_getElem? ha)
    have l1 := gl_rows " | " (by decide) okc i
    have l2 := oka.len
    refine ⟨_, rfl, _, _, rfl, rfl, Nat.le_of_lt (sl (by rw [z1]; omega)), _, rfl, y, a, rfl, fy, oka, _, _, rfl, rfl, Nat.le_of_lt (sl ?_), some y, ?_, rfl⟩
    · rw [strLen_append, z1]; omega
    · rw [List.take_add_one, ha, List.map_append]
      have eg := gl_snoc " | " ((x.cs.take i).map wtx) (wtx a)
      show _ = [some (V.ref p), some (V.str (gl " | " ((x.cs.take i).map wtx ++ [wtx a]))), _, none, none]
      rw [eg]
      rfl
  rintro σ H' ⟨x2, rfl, rfl⟩
  refine ⟨_, rfl, p, _, 2, _, rfl, rfl, SqT.of hp, rfl, pm, rfl, ⟨_, SqT.of hpm⟩, for_tup (K := K) (a := pm) (xs := mv) (fun i σ H0 => ∃ x4, σ = [some (.ref p), some (.str (gl " | " ((x.cs.take cv.length).map wtx))), x2, some (.str (gl ", " ((x.ms.take i).map wtx))), x4] ∧ H0 = H') ⟨none, rfl, rfl⟩ (fun i σ H' _ ⟨_, _, e⟩ => by rw [e]; exact SqT.of hpm) ?_ ?_⟩
  · rintro i y σ H' hi ⟨x4, rfl, rfl⟩
    have hlt : i < mv.length := (List.getElem?_eq_some_iff.mp hi).1
    have ha : x.ms[i]? = some (x.ms[i]'(by omega)) := List.getElem?_eq_getElem (by omega)
    generalize x.ms[i]'(by omega) = a at ha
    obtain ⟨y', hy', fy⟩ := fm.get (i := i) (d := wd a) (by rw [List.getElem?_map, ha]; rfl)
    rw [hi] at hy'
    cases hy'
    have oka := okm.2 a (List.mem_of_getElem? ha)
    have l1 := gl_rows ", " (by decide) okm i
    have l2 := oka.len
    refine ⟨_, rfl, _, _, rfl, rfl, Nat.le_of_lt (sl (by rw [z2]; omega)), _, rfl, y, a, rfl, fy, oka, _, _, rfl, rfl, Nat.le_of_lt (sl ?_), some y, ?_, rfl⟩
    · rw [strLen_append, z2]; omega
    · rw [List.take_add_one, ha, List.map_append]
      have eg := gl_snoc ", " ((x.ms.take i).map wtx) (wtx a)
      show _ = [some (V.ref p), some (V.str (gl " | " ((x.cs.take cv.length).map wtx))), _, some (V.str (gl ", " ((x.ms.take i).map wtx ++ [wtx a]))), _]
      rw [eg]
      rfl
  rintro σ H' ⟨x4, rfl, rfl⟩
  have lA := gl_rows " | " (by decide) okc cv.length
  have lB := gl_rows ", " (by decide) okm mv.length
  have eA : cutS (gl " | " ((x.cs.take cv.length).map wtx)) (some (3 : Int)) none = Str.join " | " (x.cs.map wtx) := by
    have e := cut_gl " | " ((x.cs.take cv.length).map wtx)
    rw [z1] at e
    rw [show cutS (gl " | " ((x.cs.take cv.length).map wtx)) (some (3 : Int)) none = _ from e, List.take_of_length_le (by omega)]
  have eB : cutS (gl ", " ((x.ms.take mv.length).map wtx)) (some (2 : Int)) none = Str.join ", " (x.ms.map wtx) := by
    have e := cut_gl ", " ((x.ms.take mv.length).map wtx)
    rw [z2] at e
    rw [show cutS (gl ", " ((x.ms.take mv.length).map wtx)) (some (2 : Int)) none = _ from e, List.take_of_length_le (by omega)]
  have l1 := okc.len " | " (by decide)
  have l2 := okm.len ", " (by decide)
  have ls := num_len s0 (by omega)
  have zn : (Str.ofString (toString x.s)).length ≤ 6 := ls
  refine ⟨_, rfl, p, _, 0, _, rfl, rfl, SqT.of hp, rfl, _, rfl, num_log s0 (by omega), _, _, rfl, rfl, Nat.le_of_lt (sl ?_), _, _, rfl, rfl, Nat.le_of_lt (sl ?_), _, rfl, _, rfl, _, rfl, Nat.le_of_lt (sl ?_), _, _, rfl, rfl, Nat.le_of_lt (sl ?_), _, _, rfl, rfl, Nat.le_of_lt (sl ?_), _, rfl, _, rfl, _, rfl, Nat.le_of_lt (sl ?_), _, _, rfl, rfl, Nat.le_of_lt (sl ?_), ?_⟩
  rotate_right 1
  · rw [eA, eB]
    exact q
  all_goals (try simp only [eA, eB, strLen_append, z1, z2, z3, z4, z5]); omega
end
end S16
namespace S16
open PySem L2
def SOk (x : Str) : Prop := PyData.strOk x = true
theorem sok_of (s : String) : SOk (Str.ofString s) := by
  unfold SOk PyData.strOk
  rw [Str.ofString_eq_toList]
  rw [Array.all_eq_true']
  intro x hx
  rw [List.mem_toArray] at hx
  obtain ⟨c, _, rfl⟩ := List.mem_map.mp hx
  have h := c.valid
  refine decide_eq_true ?_
  show c.val.toNat < 0x110000
  rcases h with h | ⟨_, h⟩
  · exact Nat.lt_trans h (by decide)
  · exact h
theorem sok_emp : SOk Str.empty := sok_of ""
theorem sok_app {x y : Str} (a : SOk x) (b : SOk y) : SOk (x ++ y) := by
  unfold SOk PyData.strOk at *
  show (x.cps ++ y.cps).all _ = true
  rw [Array.all_append, a, b]; rfl
theorem sok_join {y : Str} (hy : SOk y) : ∀ {ps : List Str}, (∀ p ∈ ps, SOk p) → SOk (Str.join y ps)
  | [], _ => sok_emp
  | [p], h => h p (List.mem_singleton.mpr rfl)
  | p :: q :: r, h => sok_app (sok_app (h p (List.mem_cons_self ..)) hy) (sok_join hy fun x hx => h x (List.mem_cons_of_mem _ hx))
theorem sok_num (i : Int) : SOk (num i) := sok_of _
theorem sok_wtx (ws : List Int) : SOk (wtx ws) := sok_join (sok_of _) fun p hp => by
  obtain ⟨i, _, rfl⟩ := List.mem_map.mp hp
  exact sok_num i
theorem sok_rows (y : String) (cs : List (List Int)) : SOk (Str.join y (cs.map wtx)) := sok_join (sok_of _) fun p hp => by
  obtain ⟨i, _, rfl⟩ := List.mem_map.mp hp
  exact sok_wtx i
theorem sok_line (x : St3) : SOk (lineT x) := sok_app (sok_app (sok_app (sok_app (sok_app (sok_of _) (sok_num _)) (sok_of _)) (sok_rows _ _)) (sok_of _)) (sok_rows _ _)
theorem sok_rep (path : List (Int × List Int)) (m : List Int) : ∀ x ∈ repT path m, SOk x := fun x hx => by
  unfold repT at hx
  rcases List.mem_append.mp hx with hx | hx
  · rcases List.mem_append.mp hx with hx | hx
    · rw [List.mem_singleton.mp hx]
      exact sok_app (sok_app (sok_of _) (sok_num _)) (sok_of _)
    · obtain ⟨p, _, rfl⟩ := List.mem_map.mp hx
      exact sok_app (sok_app (sok_app (sok_of _) (sok_num _)) (sok_of _)) (sok_wtx _)
  · rw [List.mem_singleton.mp hx]
    exact sok_app (sok_of _) (sok_wtx _)
theorem sok_safe (n : Nat) : ∀ x ∈ safeT n, SOk x := fun x hx => by
  rw [List.mem_singleton.mp hx]
  exact sok_app (sok_app (sok_of _) (sok_num _)) (sok_of _)
theorem sok_lines (xs : List St3) : ∀ x ∈ xs.map lineT, SOk x := fun x hx => by
  obtain ⟨p, _, rfl⟩ := List.mem_map.mp hx
  exact sok_line p
theorem shp_strs {ss : List Str} (h : ∀ x ∈ ss, SOk x) : Shp 1 (.list (ss.map .str)) := Shp.list fun d hd => by
  obtain ⟨i, hi, rfl⟩ := List.mem_map.mp hd
  refine ⟨?_, by simp [PyData.depth]⟩
  rw [PyData.canLay0]
  exact h i hi
end S16
namespace S16
open PySem L2
/-- the state and what the law has drawn -/
def spLaw (K : PySem.W.Frag) : Sp := fun vs H Q _ => ∃ (a : Addr) (ns : List Int), vs = [.ref a] ∧ SqL K H a (ns.map V.int) ∧ ns.length ≤ 63 ∧ ∀ H', Q (.bl true) H'
theorem kp {fp : List Addr} {H H' : Hp} {a : Addr} {o : HO} (g : Chg fp fp H H') (h : H a = some o) (n : a ∉ fp) : H' a = some o := g.keep _ _ h n
section
variable {P : Program} {w : World} {K : PySem.W.Frag} {mg : Str → Option Value} {base : Heap} {D : Defs}
theorem sc_law : FnScope ["script", "state", "sectors", "keys", "width", "k", "path", "mapping", "due", "cut", "row", "states", "contents", "maps", "one", "sector", "j"] ["script"] (defScope s_law) := ⟨rfl, rfl, rfl, by decide +kernel, rfl, by decide +kernel, by decide +kernel⟩
theorem ok_law (O : Ok P K mg D) : FnOk P w K mg base CX0 4 D.flaw D.dlaw ["script"] (spLaw K) := by
  have G__law_state : FnOk P w K mg base CX0 1 D.f_law_state D.d_law_state ["script"] (spState K) := ok_state O
  have G__law_draw : FnOk P w K mg base CX0 1 D.f_law_draw D.d_law_draw ["state", "many"] spDraw := ok_draw O
  have G__law_row : FnOk P w K mg base CX0 2 D.f_law_row D.d_law_row ["state", "many", "most"] spRow := ok_row O
  have G__law_words : FnOk P w K mg base CX0 1 D.f_law_words D.d_law_words ["row"] spLWords := ok_lwords O
  have G__law_state_line : FnOk P w K mg base CX0 2 D.f_law_state_line D.d_law_state_line ["one"] spLLine := ok_lline O
  have G_report : FnOk P w K mg base CX0 2 D.freport D.dreport ["verdict"] (spReport K) := ok_report O
  have G_state_lines : FnOk P w K mg base CX0 3 D.fstate_lines D.dstate_lines ["states"] (spLines K) := ok_lines O
  refine O.Flaw.ok sc_law (fun vs H Q E h => ?_) (fun cdv A outer s H vs Q E hr h => ?_)
  · obtain ⟨a, ns, rfl, _⟩ := h
    rfl
  obtain ⟨a, ns, rfl, hS, hlen, q⟩ := h
  have nd := sc_law.nd
  have hu := hu_of hr
  have bk : ∀ own scope, blkC ["script", "state", "sectors", "keys", "width", "k", "path", "mapping", "due", "cut", "row", "states", "contents", "maps", "one", "sector", "j"] (defScope s_law) scope own = true → BlkOk ["script", "state", "sectors", "keys", "width", "k", "path", "mapping", "due", "cut", "row", "states", "contents", "maps", "one", "sector", "j"] (defScope s_law) scope own := fun own scope h => blkOk_by h
  refine ⟨_, (pss_cons (ps_set (i := 1) nd rfl (Or.inr rfl) (pe_call G__law_state (hr.mono (by omega)) rfl O.m_law_state O.F_law_state.kp O.b_law_state .nil pass0 (pa_cons (pv 0) pa_nil)))
    (pss_cons (ps_set (i := 2) nd rfl (Or.inr rfl) (pe_op op_add pe_int (pe_call G__law_draw (hr.mono (by omega)) rfl O.m_law_draw O.F_law_draw.kp O.b_law_draw .nil pass0 (pa_cons (pv 1) (pa_cons pe_int pa_nil)))))
    (pss_cons (ps_set (i := 3) nd rfl (Or.inr rfl) (pe_op op_add pe_int (pe_call G__law_draw (hr.mono (by omega)) rfl O.m_law_draw O.F_law_draw.kp O.b_law_draw .nil pass0 (pa_cons (pv 1) (pa_cons pe_int pa_nil)))))
    (pss_cons (ps_set (i := 4) nd rfl (Or.inr rfl) (pe_op op_add pe_int (pe_call G__law_draw (hr.mono (by omega)) rfl O.m_law_draw O.F_law_draw.kp O.b_law_draw .nil pass0 (pa_cons (pv 1) (pa_cons pe_int pa_nil)))))
    (pss_cons (ps_set (i := 6) nd rfl (Or.inl rfl) (pe_callTy (r := rTupOf K) call_tupK (by rfl) O.ztuple PyProof.Rows.boot_tuple (pa_cons (pe_lc (own := [("k", 5)]) (g := gName 5) (by rfl) nd (pi_range1 (by rfl) O.zrange (pa_cons (pe_call G__law_draw (hr.mono (by omega)) rfl O.m_law_draw O.F_law_draw.kp O.b_law_draw .nil pass0 (pa_cons (pv 1) (pa_cons pe_int pa_nil))) pa_nil)) (bk [("k", 5)] _ (by decide +kernel)) (fun _ _ _ _ _ => (pg_name (i := 5) nd rfl (Or.inl rfl))) (fun _ _ _ _ _ => pts_nil) (fun _ _ _ _ _ => (pe_tup (pa_cons (pe_call G__law_draw (hr.mono (by omega)) rfl O.m_law_draw O.F_law_draw.kp O.b_law_draw .nil pass0 (pa_cons (pv 1) (pa_cons pe_int pa_nil))) (pa_cons (pe_call G__law_row (hr.mono (by omega)) rfl O.m_law_row O.F_law_row.kp O.b_law_row .nil pass0 (pa_cons (pv 1) (pa_cons (pv 2) (pa_cons pe_int pa_nil)))) pa_nil))))) pa_nil)))
    (pss_cons (ps_set (i := 7) nd rfl (Or.inl rfl) (pe_call G__law_row (hr.mono (by omega)) rfl O.m_law_row O.F_law_row.kp O.b_law_row .nil pass0 (pa_cons (pv 1) (pa_cons (pv 3) (pa_cons pe_int pa_nil)))))
    (pss_cons (ps_set (i := 8) nd rfl (Or.inl rfl) (pe_lst (pa_cons (pe_op op_add_str (pe_op op_add_str pe_str (pe_callTy call_str_int (by rfl) O.zstr (by decide +kernel) (pa_cons (pe_callB (r := rLenQ K) call_lenK (by rfl) O.zlen PySem.boot_len (pa_cons (pv 6) pa_nil)) pa_nil))) pe_str) pa_nil)))
    (C8.pss_cut (ps_for PassesOwn.never rfl (pi_tupK (K := K) (pv 6)) (pg_tup rfl (pgs_cons (pg_name (i := 9) nd rfl (Or.inl rfl)) (pgs_cons (pg_name (i := 10) nd rfl (Or.inl rfl)) pgs_nil))) (pss_one (ps_expr (pe_bm PySem.F.plainAttrs_list PySem.F.slot_list_append PySem.F.type_list_append mt_append (pv 8) (pa_cons (pe_op op_add_str (pe_op op_add_str (pe_op op_add_str pe_str (pe_callTy call_str_int (by rfl) O.zstr (by decide +kernel) (pa_cons (pv 9) pa_nil))) pe_str) (pe_call G__law_words (hr.mono (by omega)) rfl O.m_law_words O.F_law_words.kp O.b_law_words .nil pass0 (pa_cons (pv 10) pa_nil))) pa_nil)))))
    (pss_cons (ps_expr (pe_bm PySem.F.plainAttrs_list PySem.F.slot_list_append PySem.F.type_list_append mt_append (pv 8) (pa_cons (pe_op op_add_str pe_str (pe_call G__law_words (hr.mono (by omega)) rfl O.m_law_words O.F_law_words.kp O.b_law_words .nil pass0 (pa_cons (pv 7) pa_nil))) pa_nil)))
    (pss_cons (ps_if (pt_cmpR (r := rNeD K) (op_neD hr.units) (pe_call G_report (hr.mono (by omega)) rfl O.mreport O.Freport.kp O.breport .nil pass0 (pa_cons (pe_tup (pa_cons pe_str (pa_cons (pv 6) (pa_cons (pv 7) pa_nil)))) pa_nil)) (pv 8) (nomark _)) (pss_one (ps_ret pe_bl)) pss_nil)
    (pss_cons (ps_set (i := 11) nd rfl (Or.inl rfl) (pe_lst pa_nil))
    (C8.pss_cut (ps_for PassesOwn.never rfl (pi_range1 (by rfl) O.zrange (pa_cons (pe_call G__law_draw (hr.mono (by omega)) rfl O.m_law_draw O.F_law_draw.kp O.b_law_draw .nil pass0 (pa_cons (pv 1) (pa_cons pe_int pa_nil))) pa_nil)) (pg_name (i := 5) nd rfl (Or.inl rfl)) (pss_cons (ps_set (i := 12) nd rfl (Or.inl rfl) (pe_callTy (r := rTupOf K) call_tupK (by rfl) O.ztuple PyProof.Rows.boot_tuple (pa_cons (pe_lc (own := [("sector", 15)]) (g := gName 15) (by rfl) nd (pi_range1 (by rfl) O.zrange (pa_cons (pv 2) pa_nil)) (bk [("sector", 15)] _ (by decide +kernel)) (fun _ _ _ _ _ => (pg_name (i := 15) nd rfl (Or.inl rfl))) (fun _ _ _ _ _ => pts_nil) (fun _ _ _ _ _ => (pe_call G__law_row (hr.mono (by omega)) rfl O.m_law_row O.F_law_row.kp O.b_law_row .nil pass0 (pa_cons (pv 1) (pa_cons (pv 4) (pa_cons pe_int pa_nil)))))) pa_nil)))
    (pss_cons (ps_set (i := 13) nd rfl (Or.inl rfl) (pe_callTy (r := rTupOf K) call_tupK (by rfl) O.ztuple PyProof.Rows.boot_tuple (pa_cons (pe_lc (own := [("j", 16)]) (g := gName 16) (by rfl) nd (pi_range1 (by rfl) O.zrange (pa_cons (pe_op op_add pe_int (pe_call G__law_draw (hr.mono (by omega)) rfl O.m_law_draw O.F_law_draw.kp O.b_law_draw .nil pass0 (pa_cons (pv 1) (pa_cons pe_int pa_nil)))) pa_nil)) (bk [("j", 16)] _ (by decide +kernel)) (fun _ _ _ _ _ => (pg_name (i := 16) nd rfl (Or.inl rfl))) (fun _ _ _ _ _ => pts_nil) (fun _ _ _ _ _ => (pe_call G__law_row (hr.mono (by omega)) rfl O.m_law_row O.F_law_row.kp O.b_law_row .nil pass0 (pa_cons (pv 1) (pa_cons (pv 3) (pa_cons pe_int pa_nil)))))) pa_nil)))
    (pss_one (ps_expr (pe_bm PySem.F.plainAttrs_list PySem.F.slot_list_append PySem.F.type_list_append mt_append (pv 11) (pa_cons (pe_tup (pa_cons (pe_call G__law_draw (hr.mono (by omega)) rfl O.m_law_draw O.F_law_draw.kp O.b_law_draw .nil pass0 (pa_cons (pv 1) (pa_cons pe_int pa_nil))) (pa_cons (pv 12) (pa_cons (pv 13) pa_nil)))) pa_nil)))))))
    (pss_cons (ps_if (pt_cmpR (r := rNeD K) (op_neD hr.units) (pe_call G_report (hr.mono (by omega)) rfl O.mreport O.Freport.kp O.breport .nil pass0 (pa_cons (pe_tup (pa_cons pe_str (pa_cons (pe_callTy (r := rLstOf K) call_lstK (by rfl) O.zlist PyProof.Rows.boot_list (pa_cons (pv 11) pa_nil)) pa_nil))) pa_nil)) (pe_lst (pa_cons (pe_op op_add_str (pe_op op_add_str pe_str (pe_callTy call_str_int (by rfl) O.zstr (by decide +kernel) (pa_cons (pe_callB (r := rLenQ K) call_lenK (by rfl) O.zlen PySem.boot_len (pa_cons (pv 11) pa_nil)) pa_nil))) pe_str) pa_nil)) (nomark _)) (pss_one (ps_ret pe_bl)) pss_nil)
    (pss_one (ps_ret (pe_cmpR (r := rEqD K) (op_eqD hr.units) (pe_call G_state_lines (hr.mono (by omega)) rfl O.mstate_lines O.Fstate_lines.kp O.bstate_lines .nil pass0 (pa_cons (pe_callTy (r := rLstOf K) call_lstK (by rfl) O.zlist PyProof.Rows.boot_list (pa_cons (pv 11) pa_nil)) pa_nil)) (pe_lc (own := [("one", 14)]) (g := gName 14) (by rfl) nd (pi_listK (K := K) (pv 11)) (bk [("one", 14)] _ (by decide +kernel)) (fun _ _ _ _ _ => (pg_name (i := 14) nd rfl (Or.inl rfl))) (fun _ _ _ _ _ => pts_nil) (fun _ _ _ _ _ => (pe_call G__law_state_line (hr.mono (by omega)) rfl O.m_law_state_line O.F_law_state_line.kp O.b_law_state_line .nil pass0 (pa_cons (pv 14) pa_nil)))) (nomark _))))))))))))))))), ?_⟩
  refine ⟨_, rfl, a, ns, rfl, hS, hlen, fun st c H1 s1 nst nc S1 => ?_⟩
  refine ⟨_, rfl, st, c, 6, rfl, S1, by decide, by decide, fun r1 H2 a1 a2 g2 => ⟨_, _, rfl, rfl, ?_⟩⟩
  refine ⟨_, rfl, st, c, 3, rfl, g2.st, by decide, by decide, fun r2 H3 b1 b2 g3 => ⟨_, _, rfl, rfl, ?_⟩⟩
  refine ⟨_, rfl, st, c, 4, rfl, g3.st, by decide, by decide, fun r3 H4 c1 c2 g4 => ⟨_, _, rfl, rfl, ?_⟩⟩
  refine ⟨_, rfl, st, c, 5, rfl, g4.st, by decide, by decide, fun rn H5 n1 n2 g5 => ⟨rn, rfl, by omega, by omega, fun d nd1 => ?_⟩⟩
  have S5 := g5.st
  clear g5 g4 g3 g2 S1
  refine lc_drawn (α := Int × List Int) (f := crD) (Pz := fun p => 0 ≤ p.1 ∧ p.1 < 1000 ∧ OkW p.2) S5 nd1 (by omega) ?_ ?_
  · intro i H6 Nx hi S6 g6 k
    refine ⟨rfl, yes (iteT ⟨_, rfl, st, c, 200, rfl, S6, by decide, by decide, fun r H7 r0 r1' g7 => ?_⟩)⟩
    refine ⟨_, rfl, _, rfl, st, c, 1 + r1, 30, rfl, g7.st, by omega, by omega, by decide, by decide, fun ws v H8 lw okw fw g8 S8 => ⟨(by show 2 ≤ sizeLine; decide), fun t nt => ?_⟩⟩
    have k1 := Chg.mk0 (fp := [st, c]) nt (.tup [.int r, v])
    exact k (.ref t) _ (r, ws) ((g7.chg S6).trans (g8.trans k1)) (Go.new S8 nt _).1.st (Ft.mkTup upd_same (.cons (Ft.mkInt r) (.cons (fw.mono k1.tups) .nil))) ⟨r0, by show r < 1000; omega, okw⟩
  intro H6 path acc g6 S6 hacc hf hl hz
  refine ⟨d, acc, rfl, .inl ⟨SqL.of hacc, fun pt npt => ?_⟩⟩
  have k6 := Chg.mk0 (fp := [st, c]) npt (.tup acc)
  have S6b : StAt (upd H6 pt (.tup acc)) st c := (Go.new S6 npt _).1.st
  have hpt : upd H6 pt (.tup acc) pt = some (.tup acc) := upd_same
  have hf := hf.mono k6.tups
  generalize upd H6 pt (.tup acc) = H7 at *
  have okp : PathOk path := ⟨by omega, hz⟩
  refine ⟨_, rfl, _, rfl, st, c, 1 + r2, 16, rfl, S6b, by omega, by omega, by decide, by decide, fun m mv H8 lm okm fm g8 S8 => ?_⟩
  have hpt := g8.tups _ _ hpt
  have hf := hf.mono g8.tups
  have lacc := hf.len
  rw [List.length_map] at lacc
  have z1 : (Str.ofString "unsafe: ").length = 8 := rfl
  have z2 : (Str.ofString " crashes").length = 8 := rfl
  have z3 : (Str.ofString "crash at ").length = 9 := rfl
  have z4 : (Str.ofString " with ").length = 6 := rfl
  have z5 : (Str.ofString "found ").length = 6 := rfl
  have zn : (Str.ofString (toString ((acc.length : Nat) : Int))).length ≤ 6 := num_len (by omega) (by omega)
  refine ⟨_, rfl, pt, _, rfl, .inr (SqT.of hpt), _, rfl, num_log (by omega) (by omega), _, _, rfl, rfl, Nat.le_of_lt (sl (by rw [z1]; omega)), _, _, rfl, rfl, Nat.le_of_lt (sl (by rw [strLen_append, z1, z2]; omega)), (by show 1 ≤ sizeLine; decide), fun du ndu => ?_⟩
  have k8 := Chg.mk0 (fp := [st, c]) ndu (.lst [V.str ((Str.ofString "unsafe: " ++ Str.ofString (toString ((acc.length : Nat) : Int))) ++ Str.ofString " crashes")])
  have S8b := (Go.new S8 ndu (.lst [V.str ((Str.ofString "unsafe: " ++ Str.ofString (toString ((acc.length : Nat) : Int))) ++ Str.ofString " crashes")])).1.st
  have hdu : upd H8 du (.lst [V.str ((Str.ofString "unsafe: " ++ Str.ofString (toString ((acc.length : Nat) : Int))) ++ Str.ofString " crashes")]) du = some (.lst (([((Str.ofString "unsafe: " ++ num path.length) ++ Str.ofString " crashes")] ++ (path.take 0).map crashT).map V.str)) := by
    rw [upd_same, lacc]; rfl
  have ndus := S8.free ndu
  have hpt := k8.tups _ _ hpt
  have hf := hf.mono k8.tups
  have fm := fm.mono k8.tups
  generalize upd H8 du (.lst [V.str ((Str.ofString "unsafe: " ++ Str.ofString (toString ((acc.length : Nat) : Int))) ++ Str.ofString " crashes")]) = H9 at hdu hpt hf fm S8b
  -- the lines that are due
  refine ⟨fun σ H' => ∃ x9 x10, σ = [some (.ref a), some (.ref st), some (.int (1 + r1)), some (.int (1 + r2)), some (.int (1 + r3)), none, some (.ref pt), some mv, some (.ref du), x9, x10, none, none, none, none, none, none] ∧ Chg [du] [du] H9 H' ∧
    H' du = some (.lst (([((Str.ofString "unsafe: " ++ num path.length) ++ Str.ofString " crashes")] ++ path.map crashT).map V.str)), ?_, ?_⟩
  · refine ⟨_, rfl, pt, rfl, ⟨_, SqT.of hpt⟩, for_tup (K := K) (a := pt) (xs := acc) (fun i σ H' => ∃ x9 x10, σ = [some (.ref a), some (.ref st), some (.int (1 + r1)), some (.int (1 + r2)), some (.int (1 + r3)), none, some (.ref pt), some mv, some (.ref du), x9, x10, none, none, none, none, none, none] ∧ Chg [du] [du] H9 H' ∧
      H' du = some (.lst (([((Str.ofString "unsafe: " ++ num path.length) ++ Str.ofString " crashes")] ++ (path.take i).map crashT).map V.str))) ⟨none, none, rfl, Chg.refl _ _, hdu⟩ (fun i σ H' _ ⟨_, _, _, g, _⟩ => SqT.of (g.tups _ _ hpt)) ?_ ?_⟩
    · rintro i x σ H' hi ⟨x9, x10, rfl, g, hd⟩
      have hlt : i < acc.length := (List.getElem?_eq_some_iff.mp hi).1
      have ha : path[i]? = some (path[i]'(by omega)) := List.getElem?_eq_getElem (by omega)
      generalize path[i]'(by omega) = b at ha
      obtain ⟨y', hy', fx⟩ := hf.get (i := i) (d := crD b) (by rw [List.getElem?_map, ha]; rfl)
      rw [hi] at hy'
      cases hy'
      obtain ⟨b0, b1, okb⟩ := okp.2 b (List.mem_of_getElem? ha)
      obtain ⟨pc, us, rfl, hpc, fus⟩ := (fx.mono g.tups).tup
      obtain ⟨u1, us, rfl⟩ : ∃ a r, us = a :: r := by cases us with | nil => exact fus.no2.elim | cons a r => exact ⟨a, r, rfl⟩
      obtain ⟨f1, fus⟩ := fus.un
      obtain ⟨u2, us, rfl⟩ : ∃ a r, us = a :: r := by cases us with | nil => exact fus.no2.elim | cons a r => exact ⟨a, r, rfl⟩
      obtain ⟨f2, fus⟩ := fus.un
      obtain rfl : us = [] := by cases us with | nil => rfl | cons a r => exact fus.no1.elim
      obtain rfl := f1.int
      have zb : (Str.ofString (toString b.1)).length ≤ 6 := num_len b0 (by omega)
      have lw := okb.len
      refine ⟨pc, _, rfl, SqT.of hpc, rfl, _, _, rfl, _, _, rfl, rfl, ?_⟩
      refine ⟨_, rfl, .inl ⟨rfl, _, SqL.of hd⟩, _, rfl, _, rfl, num_log b0 (by omega), _, _, rfl, rfl, Nat.le_of_lt (sl (by rw [z3]; omega)), _, _, rfl, rfl, Nat.le_of_lt (sl (by rw [strLen_append, z3, z4]; omega)), _, rfl, u2, b.2, rfl, f2, okb, _, _, rfl, rfl, Nat.le_of_lt (sl (by rw [strLen_append, strLen_append, z3, z4]; omega)), du, _, _, rfl, rfl, hd, sl (by simp only [List.length_map, List.length_append, List.length_cons, List.length_nil, List.length_take]; omega), ?_⟩
      refine ⟨_, _, rfl, g.trans (Chg.set hd (List.mem_singleton.mpr rfl) (fun _ z => by cases z) _), ?_⟩
      rw [upd_same, List.take_add_one, ha]
      simp only [List.map_append, List.append_assoc, Option.toList, List.map_cons, List.map_nil]
      rfl
    · rintro σ H' ⟨x9, x10, rfl, g, hd⟩
      refine ⟨x9, x10, rfl, g, ?_⟩
      rw [hd, List.take_of_length_le (by omega)]
  rintro σ H10 ⟨x9, x10, rfl, g10, hd⟩
  have fm := fm.mono g10.tups
  have hpt := g10.tups _ _ hpt
  have hf := hf.mono g10.tups
  have S10 := S8b.keep g10 (no1 (Ne.symm ndus.1)) (no1 (Ne.symm ndus.2))
  have lwm := okm.len
  refine ⟨_, rfl, .inl ⟨rfl, _, SqL.of hd⟩, _, rfl, mv, m, rfl, fm, okm, _, _, rfl, rfl, Nat.le_of_lt (sl (by rw [z5]; omega)), du, _, _, rfl, rfl, hd, sl (by simp only [List.length_map, List.length_append, List.length_cons, List.length_nil]; omega), ?_⟩
  have k10 : Chg [du] [du] H10 (upd H10 du (.lst (([((Str.ofString "unsafe: " ++ num path.length) ++ Str.ofString " crashes")] ++ path.map crashT).map V.str ++ [.str (Str.ofString "found " ++ wtx m)]))) := Chg.set hd (List.mem_singleton.mpr rfl) (fun _ z => by cases z) _
  have hd : upd H10 du (.lst (([((Str.ofString "unsafe: " ++ num path.length) ++ Str.ofString " crashes")] ++ path.map crashT).map V.str ++ [.str (Str.ofString "found " ++ wtx m)])) du = some (.lst ((repT path m).map V.str)) := by
    rw [upd_same]
    unfold repT
    simp only [List.map_append, List.map_cons, List.map_nil]
  have S11 := S10.keep k10 (no1 (Ne.symm ndus.1)) (no1 (Ne.symm ndus.2))
  have hpt := k10.tups _ _ hpt
  have hf := hf.mono k10.tups
  have fm := fm.mono k10.tups
  generalize upd H10 du (.lst (([((Str.ofString "unsafe: " ++ num path.length) ++ Str.ofString " crashes")] ++ path.map crashT).map V.str ++ [.str (Str.ofString "found " ++ wtx m)])) = H11 at *
  refine ⟨_, rfl, _, rfl, (by show 3 ≤ sizeLine; decide), fun t nt => ?_⟩
  have k11 := Chg.mk0 (fp := []) nt (.tup [.str "unsafe", .ref pt, mv])
  refine ⟨t, rfl, .inr ⟨.ref pt, mv, path, m, upd_same, Ft.mkTup (k11.tups _ _ hpt) (hf.mono k11.tups), fm.mono k11.tups, okp, okm, fun H12 l hl g12 => ?_⟩⟩
  have hd := (k11.trans g12).keep _ _ hd (by intro h; cases h)
  have sh := shp_strs (sok_rep path m)
  refine ⟨_, rfl, _, _, .lst (SqL.of hl) (FtAll.strs.dp K), .lst (SqL.of hd) (FtAll.strs.dp K), sh.ok (by decide), sh.ok (by decide), ?_⟩
  rw [sh.eq]
  refine ⟨_, rfl, iteF ?_⟩
  have S12 := S11.keep (k11.trans g12) (by intro h; cases h) (by intro h; cases h)
  clear hd hl sh g12 k11 k10 g10 hf fm hpt
  -- the states
  refine ⟨Nat.zero_le _, fun ss nss => ?_⟩
  have S13 := (Go.new S12 nss (.lst [])).1.st
  have nsss := S12.free nss
  have hss : upd H12 ss (.lst []) ss = some (.lst []) := upd_same
  generalize upd H12 ss (.lst []) = H13 at *
  refine ⟨fun σ H' => ∃ (x5 x12 x13 : Option V) (xs : List St3) (vs : List V), σ = [some (.ref a), some (.ref st), some (.int (1 + r1)), some (.int (1 + r2)), some (.int (1 + r3)), x5, some (.ref pt), some mv, some (.ref du), x9, x10, some (.ref ss), x12, x13, none, none, none] ∧ StAt H' st c ∧
    H' ss = some (.lst vs) ∧ FtAll H' (xs.map St3.d) vs ∧ xs.length ≤ 5 ∧ ∀ x ∈ xs, x.ok, ?_, ?_⟩
  · refine ⟨_, rfl, st, c, 5, rfl, S13, by decide, by decide, fun rk H14 u1 u2 g14 => ⟨rk, rfl, by omega, by omega, ?_⟩⟩
    have hss := (g14.chg S13).keep _ _ hss (no2 nsss.1 nsss.2)
    refine for_range (lo := 0) (n := rk.toNat) (fun i σ H' => ∃ (x5 x12 x13 : Option V) (xs : List St3) (vs : List V), σ = [some (.ref a), some (.ref st), some (.int (1 + r1)), some (.int (1 + r2)), some (.int (1 + r3)), x5, some (.ref pt), some mv, some (.ref du), x9, x10, some (.ref ss), x12, x13, none, none, none] ∧ StAt H' st c ∧
      H' ss = some (.lst vs) ∧ FtAll H' (xs.map St3.d) vs ∧ xs.length ≤ i ∧ ∀ x ∈ xs, x.ok) ⟨none, none, none, [], [], rfl, g14.st, hss, .nil, Nat.le_refl _, fun x h => by cases h⟩ ?_ ?_
    · rintro i σ H' hi ⟨x5, x12, x13, xs, vs, rfl, S, hv, fv, lx, okx⟩
      refine ⟨_, rfl, 1 + r1, rfl, by omega, by omega, fun d2 nd2 => ?_⟩
      refine lc_drawn (α := List Int) (f := wd) (Pz := OkW) S nd2 (by omega) ?_ ?_
      · intro j H6 Nx hj S6 g6 k
        refine ⟨rfl, yes (iteT ⟨_, rfl, _, rfl, st, c, 1 + r3, 16, rfl, S6, by omega, by omega, by decide, by decide, fun ws v H8 lw okw fw g8 S8 => ?_⟩)⟩
        exact k v H8 ws g8 S8 fw okw
      intro H20 cs cc g20 S20 hcc hfc hlc hzc
      refine ⟨d2, cc, rfl, .inl ⟨SqL.of hcc, fun ct nct => ?_⟩⟩
      have k20 := Chg.mk0 (fp := [st, c]) nct (.tup cc)
      have S20b := (Go.new S20 nct (.tup cc)).1.st
      have hct : upd H20 ct (.tup cc) ct = some (.tup cc) := upd_same
      have hfc := hfc.mono k20.tups
      have g20 := g20.trans k20
      generalize upd H20 ct (.tup cc) = H21 at *
      refine ⟨_, rfl, st, c, 3, rfl, S20b, by decide, by decide, fun rm H22 v1 v2 g22 => ⟨_, _, rfl, rfl, 1 + rm, rfl, by omega, by omega, fun d3 nd3 => ?_⟩⟩
      refine lc_drawn (α := List Int) (f := wd) (Pz := OkW) g22.st nd3 (by omega) ?_ ?_
      · intro j H6 Nx hj S6 g6 k
        refine ⟨rfl, yes (iteT ⟨_, rfl, _, rfl, st, c, 1 + r2, 16, rfl, S6, by omega, by omega, by decide, by decide, fun ws v H8 lw okw fw g8 S8 => ?_⟩)⟩
        exact k v H8 ws g8 S8 fw okw
      intro H24 ms mc g24 S24 hmc hfm hlm hzm
      refine ⟨d3, mc, rfl, .inl ⟨SqL.of hmc, fun mt nmt => ?_⟩⟩
      have k24 := Chg.mk0 (fp := [st, c]) nmt (.tup mc)
      have S24b := (Go.new S24 nmt (.tup mc)).1.st
      have hmt : upd H24 mt (.tup mc) mt = some (.tup mc) := upd_same
      have hfm := hfm.mono k24.tups
      have g2124 := ((g22.chg S20b).trans g24).trans k24
      generalize upd H24 mt (.tup mc) = H25 at *
      have S26 := S24b
      have hvs := fun (H' : Hp) (g : Chg [st, c] [st, c] _ H') => g.keep _ _ hv (no2 nsss.1 nsss.2)
      refine ⟨_, rfl, .inl ⟨rfl, _, SqL.of (hvs _ (g20.trans g2124))⟩, _, rfl, st, c, 4, rfl, S24b, by decide, by decide, fun sn H27 w1 w2 g27 => ?_⟩
      have g27c := g27.chg S24b
      refine ⟨_, rfl, _, rfl, (by show 3 ≤ sizeLine; decide), fun t nt => ?_⟩
      have k27 := Chg.mk0 (fp := [st, c]) nt (.tup [.int sn, .ref ct, .ref mt])
      have S28 := (Go.new g27.st nt (.tup [.int sn, .ref ct, .ref mt])).1.st
      have gall := ((g20.trans g2124).trans g27c).trans k27
      have ft : Ft (upd H27 t (.tup [.int sn, .ref ct, .ref mt])) (St3.d ⟨sn, cs, ms⟩) (.ref t) := by
        refine Ft.mkTup upd_same (.cons (Ft.mkInt sn) (.cons (Ft.mkTup ((g2124.trans (g27c.trans k27)).tups _ _ hct) (hfc.mono (g2124.trans (g27c.trans k27)).tups)) (.cons (Ft.mkTup ((g27c.trans k27).tups _ _ hmt) (hfm.mono (g27c.trans k27).tups)) .nil)))
      generalize upd H27 t (.tup [.int sn, .ref ct, .ref mt]) = H28 at *
      have hv28 := hvs _ gall
      have lv := fv.len
      rw [List.length_map] at lv
      refine ⟨ss, vs, _, rfl, rfl, hv28, sl (by omega), ?_⟩
      have k28 : Chg [ss] [ss] H28 (upd H28 ss (.lst (vs ++ [.ref t]))) := Chg.set hv28 (List.mem_singleton.mpr rfl) (fun _ z => by cases z) _
      refine ⟨_, _, _, xs ++ [⟨sn, cs, ms⟩], vs ++ [.ref t], rfl, S28.keep k28 (no1 (Ne.symm nsss.1)) (no1 (Ne.symm nsss.2)), upd_same, ?_, by rw [List.length_append]; exact Nat.add_le_add_right lx 1, fun x hx => ?_⟩
      · rw [List.map_append]
        exact ((fv.mono gall.tups).mono k28.tups).app (.cons (ft.mono k28.tups) .nil)
      · rcases List.mem_append.mp hx with hx | hx
        · exact okx x hx
        · rw [List.mem_singleton.mp hx]
          exact ⟨w1, by show sn < 1000; omega, ⟨by show cs.length ≤ 20; omega, hzc⟩, ⟨by show ms.length ≤ 20; omega, hzm⟩⟩
    · rintro σ H' ⟨x5, x12, x13, xs, vs, rfl, S, hv, fv, lx, okx⟩
      exact ⟨x5, x12, x13, xs, vs, rfl, S, hv, fv, by omega, okx⟩
  rintro σ H14 ⟨x5, x12, x13, xs, vs, rfl, S14, hv, fv, lx, okx⟩
  have lv := fv.len
  rw [List.length_map] at lv
  refine ⟨_, rfl, ss, vs, rfl, .inl (SqL.of hv), fun l1 nl1 => ⟨(by show 2 ≤ sizeLine; decide), fun t nt => ?_⟩⟩
  have hl1 : upd (upd H14 l1 (.lst vs)) t (.tup [.str "safe", .ref l1]) l1 = some (.lst vs) := (upd_ne (o := .tup [.str "safe", .ref l1]) (ne_of_none (upd_same (H := H14) (a := l1) (o := .lst vs)) nt)).trans upd_same
  have k14 := (Chg.mk0 (fp := []) nl1 (.lst vs)).trans (Chg.mk0 nt (.tup [.str "safe", .ref l1]))
  refine ⟨t, rfl, .inl ⟨l1, vs, upd_same, hl1, by omega, fun H15 l hl g15 => ?_⟩⟩
  have hv15 := (k14.trans g15).keep _ _ hv (by intro h; cases h)
  have fv15 := (fv.mono k14.tups).mono g15.tups
  have y1 : (Str.ofString "safe: ").length = 6 := rfl
  have y2 : (Str.ofString " states").length = 7 := rfl
  have yn : (Str.ofString (toString ((vs.length : Nat) : Int))).length ≤ 6 := num_len (by omega) (by omega)
  refine ⟨_, rfl, ss, vs, rfl, .inl (SqL.of hv15), _, rfl, num_log (by omega) (by omega), _, _, rfl, rfl, Nat.le_of_lt (sl (by rw [y1]; omega)), _, _, rfl, rfl, Nat.le_of_lt (sl (by rw [strLen_append, y1, y2]; omega)), (by show 1 ≤ sizeLine; decide), fun l2 nl2 => ?_⟩
  have k15 := Chg.mk0 (fp := []) nl2 (.lst [V.str ((Str.ofString "safe: " ++ Str.ofString (toString ((vs.length : Nat) : Int))) ++ Str.ofString " states")])
  have sh := shp_strs (sok_safe vs.length)
  refine ⟨_, _, .lst (SqL.of (k15.keep _ _ hl (by intro h; cases h))) (FtAll.strs.dp K), .lst (xs := (safeT vs.length).map V.str) (SqL.of upd_same) (FtAll.strs.dp K), sh.ok (by decide), sh.ok (by decide), ?_⟩
  rw [sh.eq]
  refine ⟨_, rfl, iteF ?_⟩
  have hv16 := k15.keep _ _ hv15 (by intro h; cases h)
  have fv16 := fv15.mono k15.tups
  generalize upd H15 l2 (.lst [V.str ((Str.ofString "safe: " ++ Str.ofString (toString ((vs.length : Nat) : Int))) ++ Str.ofString " states")]) = H16 at *
  refine ⟨_, rfl, ss, vs, rfl, .inl (SqL.of hv16), fun l3 nl3 => ?_⟩
  have k16 := Chg.mk0 (fp := []) nl3 (.lst vs)
  refine ⟨l3, vs, xs, rfl, upd_same, fv16.mono k16.tups, by omega, okx, fun H17 l4 nl4 L4 => ?_⟩
  obtain ⟨lc4, p1, p2, p3⟩ := L4
  have hv17 := (k16.trans p3).keep _ _ hv16 (by intro h; cases h)
  have fv17 := fv16.mono (k16.trans p3).tups
  refine ⟨_, rfl, ss, rfl, ⟨_, SqL.of hv17⟩, fun d4 nd4 => ?_⟩
  obtain ⟨j1, j2, j3⟩ := wk_list (K := K) (fp := []) (H0 := H17) (a := ss) (xs := vs) (Iv := fun _ _ => True) (fun i H' g _ => SqL.of (g.keep _ _ hv17 (by intro h; cases h)))
  rw [lv] at j1 j2 j3
  refine lc_txt (f := fun x => PyData.str (lineT x)) (xs := xs) nd4 rfl (by omega) (fun H' g => j1 H' g trivial) (fun i H' hi g => j2 i H' hi g trivial) _ (fun i H' x H'' hi g y => j3 i H' x H'' hi g trivial y) ?_ ?_
  · intro i x H' b hi hb hx g hdn Nx k
    obtain ⟨x', hx', fx⟩ := fv17.get (i := i) (d := b.d) (by rw [List.getElem?_map, hb]; rfl)
    rw [hx] at hx'
    cases hx'
    refine ⟨rfl, yes (iteT ⟨_, rfl, x, b, rfl, fx.mono g.tups, okx b (List.mem_of_getElem? hb), ?_⟩)⟩
    exact k H' _ (Chg.refl _ _) (Ft.mkStr _)
  · intro H18 ⟨acc8, e1, e2, e3⟩
    have sh := shp_strs (sok_lines xs)
    have e2' : FtAll H18 ((xs.map lineT).map .str) acc8 := by rw [List.map_map]; exact e2
    refine ⟨_, _, .lst (SqL.of (e3.keep _ _ p1 (by intro h; cases h))) ((p2.mono e3.tups).dp K), .lst (SqL.of e1) (e2'.dp K), sh.ok (by decide), sh.ok (by decide), ?_⟩
    rw [sh.eq]
    exact q _
end
end S16
namespace S16
open PySem L2
theorem all_mk {P : Program} {w : World} {K : PySem.W.Frag} {h : Heap} {mg : Str → Option Value} {f1 f2 f3 f4 f5 f6 f7 f8 f9 f10  fa : Addr} {od1 an1 od2 an2 od3 an3 od4 an4 od5 an5 od6 an6 od7 an7 od8 an8 od9 an9 od10 an10 : Option Addr} {sl1 sl2 sl3 sl4 sl5 sl6 sl7 sl8 sl9 sl10 : Array (Option Value)} {oc1 kV1 dc1 pm1 cd1 ct1 oc2 kV2 dc2 pm2 cd2 ct2 oc3 kV3 dc3 pm3 cd3 ct3 oc4 kV4 dc4 pm4 cd4 ct4 oc5 kV5 dc5 pm5 cd5 ct5 oc6 kV6 dc6 pm6 cd6 ct6 oc7 kV7 dc7 pm7 cd7 ct7 oc8 kV8 dc8 pm8 cd8 ct8 oc9 kV9 dc9 pm9 cd9 ct9 oc10 kV10 dc10 pm10 cd10 ct10 : Value}  (X : K.In h) (G : h.Ns mainGlobals mg) (hfa : mg "law" = some (.ref fa))
    (a1 : PySem.W.nsIn K mainGlobals "report" = some (some (.ref f1)))
    (l1 : K.lookup f1 = some ⟨oc1, od1, .func (PySem.W.fnOf "report" "report" (defArgs s_report) (defBody s_report) (defScope s_report) .none kV1 dc1 pm1 an1 cd1 ct1), sl1⟩)
    (c1 : PySem.W.codeIn K cd1 "report" = true)
    (k1 : PySem.W.keepIn K (.ref f1) = true)
    (a2 : PySem.W.nsIn K mainGlobals "state_lines" = some (some (.ref f2)))
    (l2 : K.lookup f2 = some ⟨oc2, od2, .func (PySem.W.fnOf "state_lines" "state_lines" (defArgs s_state_lines) (defBody s_state_lines) (defScope s_state_lines) .none kV2 dc2 pm2 an2 cd2 ct2), sl2⟩)
    (c2 : PySem.W.codeIn K cd2 "state_lines" = true)
    (k2 : PySem.W.keepIn K (.ref f2) = true)
    (a3 : PySem.W.nsIn K mainGlobals "state_line" = some (some (.ref f3)))
    (l3 : K.lookup f3 = some ⟨oc3, od3, .func (PySem.W.fnOf "state_line" "state_line" (defArgs s_state_line) (defBody s_state_line) (defScope s_state_line) .none kV3 dc3 pm3 an3 cd3 ct3), sl3⟩)
    (c3 : PySem.W.codeIn K cd3 "state_line" = true)
    (k3 : PySem.W.keepIn K (.ref f3) = true)
    (a4 : PySem.W.nsIn K mainGlobals "numbers" = some (some (.ref f4)))
    (l4 : K.lookup f4 = some ⟨oc4, od4, .func (PySem.W.fnOf "numbers" "numbers" (defArgs s_numbers) (defBody s_numbers) (defScope s_numbers) .none kV4 dc4 pm4 an4 cd4 ct4), sl4⟩)
    (c4 : PySem.W.codeIn K cd4 "numbers" = true)
    (k4 : PySem.W.keepIn K (.ref f4) = true)
    (a5 : PySem.W.nsIn K mainGlobals "_law_state" = some (some (.ref f5)))
    (l5 : K.lookup f5 = some ⟨oc5, od5, .func (PySem.W.fnOf "_law_state" "_law_state" (defArgs s__law_state) (defBody s__law_state) (defScope s__law_state) .none kV5 dc5 pm5 an5 cd5 ct5), sl5⟩)
    (c5 : PySem.W.codeIn K cd5 "_law_state" = true)
    (k5 : PySem.W.keepIn K (.ref f5) = true)
    (a6 : PySem.W.nsIn K mainGlobals "_law_draw" = some (some (.ref f6)))
    (l6 : K.lookup f6 = some ⟨oc6, od6, .func (PySem.W.fnOf "_law_draw" "_law_draw" (defArgs s__law_draw) (defBody s__law_draw) (defScope s__law_draw) .none kV6 dc6 pm6 an6 cd6 ct6), sl6⟩)
    (c6 : PySem.W.codeIn K cd6 "_law_draw" = true)
    (k6 : PySem.W.keepIn K (.ref f6) = true)
    (a7 : PySem.W.nsIn K mainGlobals "_law_row" = some (some (.ref f7)))
    (l7 : K.lookup f7 = some ⟨oc7, od7, .func (PySem.W.fnOf "_law_row" "_law_row" (defArgs s__law_row) (defBody s__law_row) (defScope s__law_row) .none kV7 dc7 pm7 an7 cd7 ct7), sl7⟩)
    (c7 : PySem.W.codeIn K cd7 "_law_row" = true)
    (k7 : PySem.W.keepIn K (.ref f7) = true)
    (a8 : PySem.W.nsIn K mainGlobals "_law_words" = some (some (.ref f8)))
    (l8 : K.lookup f8 = some ⟨oc8, od8, .func (PySem.W.fnOf "_law_words" "_law_words" (defArgs s__law_words) (defBody s__law_words) (defScope s__law_words) .none kV8 dc8 pm8 an8 cd8 ct8), sl8⟩)
    (c8 : PySem.W.codeIn K cd8 "_law_words" = true)
    (k8 : PySem.W.keepIn K (.ref f8) = true)
    (a9 : PySem.W.nsIn K mainGlobals "_law_state_line" = some (some (.ref f9)))
    (l9 : K.lookup f9 = some ⟨oc9, od9, .func (PySem.W.fnOf "_law_state_line" "_law_state_line" (defArgs s__law_state_line) (defBody s__law_state_line) (defScope s__law_state_line) .none kV9 dc9 pm9 an9 cd9 ct9), sl9⟩)
    (c9 : PySem.W.codeIn K cd9 "_law_state_line" = true)
    (k9 : PySem.W.keepIn K (.ref f9) = true)
    (a10 : PySem.W.nsIn K mainGlobals "law" = some (some (.ref f10)))
    (l10 : K.lookup f10 = some ⟨oc10, od10, .func (PySem.W.fnOf "law" "law" (defArgs s_law) (defBody s_law) (defScope s_law) .none kV10 dc10 pm10 an10 cd10 ct10), sl10⟩)
    (c10 : PySem.W.codeIn K cd10 "law" = true)
    (k10 : PySem.W.keepIn K (.ref f10) = true)
    (zlen : PySem.W.nsIn K mainGlobals "len" = some none)
    (zint : PySem.W.nsIn K mainGlobals "int" = some none)
    (zabs : PySem.W.nsIn K mainGlobals "abs" = some none)
    (zrange : PySem.W.nsIn K mainGlobals "range" = some none)
    (zlist : PySem.W.nsIn K mainGlobals "list" = some none)
    (ztuple : PySem.W.nsIn K mainGlobals "tuple" = some none)
    (zstr : PySem.W.nsIn K mainGlobals "str" = some none) :
    ∃ fd : FuncData, (∀ (s : Shared) (v : Value), BindsTo s fd ⟨[v], []⟩ [("script", v)]) ∧ ∀ base : Heap, K.In base → base.Ns mainGlobals mg → FnOk P w K mg base CX0 4 fa fd ["script"] (spLaw K) := by
  have e := hfa.symm.trans (PySem.W.mg_of X G a10)
  cases e
  have F1 := fun_mk (st := s_report) l1 c1 k1
  have b1 := F1.binds (ps := ["verdict"]) fun _ _ _ _ _ _ us hl => match us, hl with | [_], _ => rfl
  have F2 := fun_mk (st := s_state_lines) l2 c2 k2
  have b2 := F2.binds (ps := ["states"]) fun _ _ _ _ _ _ us hl => match us, hl with | [_], _ => rfl
  have F3 := fun_mk (st := s_state_line) l3 c3 k3
  have b3 := F3.binds (ps := ["state"]) fun _ _ _ _ _ _ us hl => match us, hl with | [_], _ => rfl
  have F4 := fun_mk (st := s_numbers) l4 c4 k4
  have b4 := F4.binds (ps := ["words"]) fun _ _ _ _ _ _ us hl => match us, hl with | [_], _ => rfl
  have F5 := fun_mk (st := s__law_state) l5 c5 k5
  have b5 := F5.binds (ps := ["script"]) fun _ _ _ _ _ _ us hl => match us, hl with | [_], _ => rfl
  have F6 := fun_mk (st := s__law_draw) l6 c6 k6
  have b6 := F6.binds (ps := ["state", "many"]) fun _ _ _ _ _ _ us hl => match us, hl with | [_, _], _ => rfl
  have F7 := fun_mk (st := s__law_row) l7 c7 k7
  have b7 := F7.binds (ps := ["state", "many", "most"]) fun _ _ _ _ _ _ us hl => match us, hl with | [_, _, _], _ => rfl
  have F8 := fun_mk (st := s__law_words) l8 c8 k8
  have b8 := F8.binds (ps := ["row"]) fun _ _ _ _ _ _ us hl => match us, hl with | [_], _ => rfl
  have F9 := fun_mk (st := s__law_state_line) l9 c9 k9
  have b9 := F9.binds (ps := ["one"]) fun _ _ _ _ _ _ us hl => match us, hl with | [_], _ => rfl
  have F10 := fun_mk (st := s_law) l10 c10 k10
  have b10 := F10.binds (ps := ["script"]) fun _ _ _ _ _ _ us hl => match us, hl with | [_], _ => rfl
  have O : Ok P K mg { freport := f1, dreport := PySem.W.fnOf "report" "report" (defArgs s_report) (defBody s_report) (defScope s_report) .none kV1 dc1 pm1 an1 cd1 ct1, fstate_lines := f2, dstate_lines := PySem.W.fnOf "state_lines" "state_lines" (defArgs s_state_lines) (defBody s_state_lines) (defScope s_state_lines) .none kV2 dc2 pm2 an2 cd2 ct2, fstate_line := f3, dstate_line := PySem.W.fnOf "state_line" "state_line" (defArgs s_state_line) (defBody s_state_line) (defScope s_state_line) .none kV3 dc3 pm3 an3 cd3 ct3, fnumbers := f4, dnumbers := PySem.W.fnOf "numbers" "numbers" (defArgs s_numbers) (defBody s_numbers) (defScope s_numbers) .none kV4 dc4 pm4 an4 cd4 ct4, f_law_state := f5, d_law_state := PySem.W.fnOf "_law_state" "_law_state" (defArgs s__law_state) (defBody s__law_state) (defScope s__law_state) .none kV5 dc5 pm5 an5 cd5 ct5, f_law_draw := f6, d_law_draw := PySem.W.fnOf "_law_draw" "_law_draw" (defArgs s__law_draw) (defBody s__law_draw) (defScope s__law_draw) .none kV6 dc6 pm6 an6 cd6 ct6, f_law_row := f7, d_law_row := PySem.W.fnOf "_law_row" "_law_row" (defArgs s__law_row) (defBody s__law_row) (defScope s__law_row) .none kV7 dc7 pm7 an7 cd7 ct7, f_law_words := f8, d_law_words := PySem.W.fnOf "_law_words" "_law_words" (defArgs s__law_words) (defBody s__law_words) (defScope s__law_words) .none kV8 dc8 pm8 an8 cd8 ct8, f_law_state_line := f9, d_law_state_line := PySem.W.fnOf "_law_state_line" "_law_state_line" (defArgs s__law_state_line) (defBody s__law_state_line) (defScope s__law_state_line) .none kV9 dc9 pm9 an9 cd9 ct9, flaw := f10, dlaw := PySem.W.fnOf "law" "law" (defArgs s_law) (defBody s_law) (defScope s_law) .none kV10 dc10 pm10 an10 cd10 ct10 } :=
    { Freport := F1,
      breport := b1,
      mreport := PySem.W.mg_of X G a1,
      Fstate_lines := F2,
      bstate_lines := b2,
      mstate_lines := PySem.W.mg_of X G a2,
      Fstate_line := F3,
      bstate_line := b3,
      mstate_line := PySem.W.mg_of X G a3,
      Fnumbers := F4,
      bnumbers := b4,
      mnumbers := PySem.W.mg_of X G a4,
      F_law_state := F5,
      b_law_state := b5,
      m_law_state := PySem.W.mg_of X G a5,
      F_law_draw := F6,
      b_law_draw := b6,
      m_law_draw := PySem.W.mg_of X G a6,
      F_law_row := F7,
      b_law_row := b7,
      m_law_row := PySem.W.mg_of X G a7,
      F_law_words := F8,
      b_law_words := b8,
      m_law_words := PySem.W.mg_of X G a8,
      F_law_state_line := F9,
      b_law_state_line := b9,
      m_law_state_line := PySem.W.mg_of X G a9,
      Flaw := F10,
      blaw := b10,
      mlaw := PySem.W.mg_of X G a10,
      zlen := PySem.W.mg_none_of X G zlen,
      zint := PySem.W.mg_none_of X G zint,
      zabs := PySem.W.mg_none_of X G zabs,
      zrange := PySem.W.mg_none_of X G zrange,
      zlist := PySem.W.mg_none_of X G zlist,
      ztuple := PySem.W.mg_none_of X G ztuple,
      zstr := PySem.W.mg_none_of X G zstr }
  exact ⟨PySem.W.fnOf "law" "law" (defArgs s_law) (defBody s_law) (defScope s_law) .none kV10 dc10 pm10 an10 cd10 ct10, fun s v => .of_eq rfl, fun base _ _ => ok_law O⟩
theorem walk {l : PySem.W.OpenLaw} {q : Program} {loose : List Str} {XP : (Str → Option Value) → Heap → Prop} {YP : World → Heap → Prop} {d : DefRec} {K : Params → PySem.W.Frag} (hn : l.most = some 63) (hdf : d.params.defaults = [])
    (hY : ∀ (w : World) (h : Heap), YP w h → (K w.params).In h)
    (F : ∀ (w : World) (mg : Str → Option Value) (fa : Addr) (h : Heap), (K w.params).In h → h.Ns mainGlobals mg → mg d.name = some (.ref fa) →
      ∃ fd : FuncData, (∀ (s : Shared) (u : Value), BindsTo s fd ⟨[u], []⟩ [("script", u)]) ∧ ∀ base : Heap, (K w.params).In base → base.Ns mainGlobals mg → FnOk l.prog w (K w.params) mg base CX0 4 fa fd ["script"] (spLaw (K w.params))) :
    PySem.W.WalkO q loose XP YP l.row.toRowW d [] (fun f vs => PySem.call f vs) :=
  L2.walk_of (n := 63) (k := 4) (x := "script") (CX := fun _ => CX0) (sp := fun w => spLaw (K w.params)) hn (by decide) hdf ⟨rfl, by decide, by decide⟩ hY F (fun _ _ a ns hl _ hS => ⟨a, ns, rfl, hS, hl, fun _ => rfl⟩) fun _ _ _ _ _ z => z
end S16
open PySem PySem.W PyProof.Rows
set_option maxRecDepth 100000 in
set_option maxHeartbeats 0 in
theorem PySem.Challenge.cw_salvor_k16_reports_holds : PySem.Challenge.rw_salvor_k16_reports.Holds := by
  w_on; o_law; k_head; (case hw => w_witness2)
  k_fill
  refine S16.walk (l := PySem.Challenge.rw_salvor_k16_reports) rfl rfl (fun w h Y => PySem.W.kIn_of Y) ?F
  case F =>
    intro w mg fa h KX G hmg
    refine' S16.all_mk KX G hmg ?a1 ?l1 ?c1 ?k1 ?a2 ?l2 ?c2 ?k2 ?a3 ?l3 ?c3 ?k3 ?a4 ?l4 ?c4 ?k4 ?a5 ?l5 ?c5 ?k5 ?a6 ?l6 ?c6 ?k6 ?a7 ?l7 ?c7 ?k7 ?a8 ?l8 ?c8 ?k8 ?a9 ?l9 ?c9 ?k9 ?a10 ?l10 ?c10 ?k10 ?zlen ?zint ?zabs ?zrange ?zlist ?ztuple ?zstr
    (case a1 => k_is)
    (case l1 => k_is)
    (case c1 => k_is)
    (case k1 => k_is)
    (case a2 => k_is)
    (case l2 => k_is)
    (case c2 => k_is)
    (case k2 => k_is)
    (case a3 => k_is)
    (case l3 => k_is)
    (case c3 => k_is)
    (case k3 => k_is)
    (case a4 => k_is)
    (case l4 => k_is)
    (case c4 => k_is)
    (case k4 => k_is)
    (case a5 => k_is)
    (case l5 => k_is)
    (case c5 => k_is)
    (case k5 => k_is)
    (case a6 => k_is)
    (case l6 => k_is)
    (case c6 => k_is)
    (case k6 => k_is)
    (case a7 => k_is)
    (case l7 => k_is)
    (case c7 => k_is)
    (case k7 => k_is)
    (case a8 => k_is)
    (case l8 => k_is)
    (case c8 => k_is)
    (case k8 => k_is)
    (case a9 => k_is)
    (case l9 => k_is)
    (case c9 => k_is)
    (case k9 => k_is)
    (case a10 => k_is)
    (case l10 => k_is)
    (case c10 => k_is)
    (case k10 => k_is)
    (case zlen => k_is)
    (case zint => k_is)
    (case zabs => k_is)
    (case zrange => k_is)
    (case zlist => k_is)
    (case ztuple => k_is)
    (case zstr => k_is)
