import PyProof.Rows.All
import Wide.All
import OpenK.AllK
import Wide.FinOn
import HandS.ForMost
import HandS.IsInst
import HandS.Conv
import HandS.Codes
import HandS.Flow
import HandS.TupMul
import HandS.TupAny
import PySem.Challenge.RW_salvor_k04_disks
set_option Elab.async false
set_option maxRecDepth 100000
set_option maxHeartbeats 4000000
set_option linter.unusedVariables false
namespace S4
open PySem L2
def top (i : Nat) : Stmt := PySem.Challenge.pw_salvor_k04_disks.main.body.getD i (.Pass ⟨0, 0, 0, 0⟩)
abbrev s_blank : Stmt := top 1
abbrev s_Disk___init__ : Stmt := inClass (top 2) 0
abbrev s_Disk_look : Stmt := inClass (top 2) 1
abbrev s_Disk_write : Stmt := inClass (top 2) 2
abbrev s_Disk_barrier : Stmt := inClass (top 2) 3
abbrev s_Disk_snapshot : Stmt := inClass (top 2) 4
abbrev s__law_state : Stmt := top 4
abbrev s__law_draw : Stmt := top 5
abbrev s__law_words : Stmt := top 6
abbrev s_law : Stmt := top 7
end S4
namespace S4
open PySem L2
/-- where each def stands -/
structure Defs where
  fblank : Addr
  dblank : FuncData
  fDisk___init__ : Addr
  dDisk___init__ : FuncData
  fDisk_look : Addr
  dDisk_look : FuncData
  fDisk_write : Addr
  dDisk_write : FuncData
  fDisk_barrier : Addr
  dDisk_barrier : FuncData
  fDisk_snapshot : Addr
  dDisk_snapshot : FuncData
  f_law_state : Addr
  d_law_state : FuncData
  f_law_draw : Addr
  d_law_draw : FuncData
  f_law_words : Addr
  d_law_words : FuncData
  flaw : Addr
  dlaw : FuncData
  cDisk : Addr
/-- what the top has written -/
structure Ok (P : Program) (K : PySem.W.Frag) (mg : Str → Option Value) (D : Defs) : Prop where
  Fblank : Fun K "blank" "blank" s_blank D.fblank D.dblank
  bblank : Binds K D.dblank ["sectors", "width"] []
  mblank : mg "blank" = some (.ref D.fblank)
  FDisk___init__ : Fun K "__init__" "Disk.__init__" s_Disk___init__ D.fDisk___init__ D.dDisk___init__
  bDisk___init__ : Binds K D.dDisk___init__ ["self", "contents"] []
  FDisk_look : Fun K "look" "Disk.look" s_Disk_look D.fDisk_look D.dDisk_look
  bDisk_look : Binds K D.dDisk_look ["self", "sector"] []
  eDisk_look : Meth K D.cDisk "look" D.fDisk_look
  FDisk_write : Fun K "write" "Disk.write" s_Disk_write D.fDisk_write D.dDisk_write
  bDisk_write : Binds K D.dDisk_write ["self", "sector", "words"] []
  eDisk_write : Meth K D.cDisk "write" D.fDisk_write
  FDisk_barrier : Fun K "barrier" "Disk.barrier" s_Disk_barrier D.fDisk_barrier D.dDisk_barrier
  bDisk_barrier : Binds K D.dDisk_barrier ["self"] []
  eDisk_barrier : Meth K D.cDisk "barrier" D.fDisk_barrier
  FDisk_snapshot : Fun K "snapshot" "Disk.snapshot" s_Disk_snapshot D.fDisk_snapshot D.dDisk_snapshot
  bDisk_snapshot : Binds K D.dDisk_snapshot ["self"] []
  eDisk_snapshot : Meth K D.cDisk "snapshot" D.fDisk_snapshot
  F_law_state : Fun K "_law_state" "_law_state" s__law_state D.f_law_state D.d_law_state
  b_law_state : Binds K D.d_law_state ["script"] []
  m_law_state : mg "_law_state" = some (.ref D.f_law_state)
  F_law_draw : Fun K "_law_draw" "_law_draw" s__law_draw D.f_law_draw D.d_law_draw
  b_law_draw : Binds K D.d_law_draw ["state", "many"] []
  m_law_draw : mg "_law_draw" = some (.ref D.f_law_draw)
  F_law_words : Fun K "_law_words" "_law_words" s__law_words D.f_law_words D.d_law_words
  b_law_words : Binds K D.d_law_words ["state", "width"] []
  m_law_words : mg "_law_words" = some (.ref D.f_law_words)
  Flaw : Fun K "law" "law" s_law D.flaw D.dlaw
  blaw : Binds K D.dlaw ["script"] []
  mlaw : mg "law" = some (.ref D.flaw)
  mDisk : mg "Disk" = some (.ref D.cDisk)
  clDisk : Cls K D.cDisk
  mkDisk : Mk K D.cDisk D.fDisk___init__
  nDisk__durable : NoAttr K D.cDisk "_durable"
  nDisk__pending : NoAttr K D.cDisk "_pending"
  nDisk__visible : NoAttr K D.cDisk "_visible"
  zlen : mg "len" = none
  zint : mg "int" = none
  zabs : mg "abs" = none
  zrange : mg "range" = none
  zisinstance : mg "isinstance" = none
  zlist : mg "list" = none
  ztuple : mg "tuple" = none
end S4
namespace S4
open PySem L2
theorem new_same {H : Hp} {p : Addr} (h : H p = none) (o : HO) : Same H (upd H p o) := fun b u q => by rw [upd_ne (ne_of_none q h)]; exact q
theorem yes {σ : L2.St} {H : Hp} {Q : Bool → Hp → Prop} (h : Q true H) : tYes σ H Q := h
theorem small5 {n : Nat} (h : n ≤ 100000) : n < sizeLine := by rw [sizeLine_eq]; omega
/-- a list of data, one by one -/
def Each {α : Type} (R : Hp → α → V → Prop) (H : Hp) : List α → List V → Prop
  | [], [] => True
  | a :: r, x :: xs => R H a x ∧ Each R H r xs
  | _, _ => False
section
variable {α : Type} {R : Hp → α → V → Prop} {H H' : Hp}
theorem Each.mono (m : ∀ a v, R H a v → R H' a v) : ∀ {es : List α} {xs : List V}, Each R H es xs → Each R H' es xs
  | [], [], _ => trivial
  | _ :: _, _ :: _, ⟨h1, h2⟩ => ⟨m _ _ h1, Each.mono m h2⟩
  | [], _ :: _, h => h.elim
  | _ :: _, [], h => h.elim
theorem Each.len : ∀ {es : List α} {xs : List V}, Each R H es xs → xs.length = es.length
  | [], [], _ => rfl
  | _ :: _, _ :: _, ⟨_, h2⟩ => congrArg (· + 1) (Each.len h2)
  | [], _ :: _, h => h.elim
  | _ :: _, [], h => h.elim
theorem Each.get : ∀ {es : List α} {xs : List V} {i : Nat} {x : V}, Each R H es xs → xs[i]? = some x → ∃ e, es[i]? = some e ∧ R H e x
  | [], [], i, x, _, e => by cases i <;> cases e
  | a :: _, y :: _, 0, x, ⟨h1, _⟩, e => ⟨a, rfl, by cases e; exact h1⟩
  | _ :: _, _ :: _, i + 1, x, ⟨_, h2⟩, e => Each.get (i := i) h2 e
  | [], _ :: _, _, _, h, _ => h.elim
  | _ :: _, [], _, _, h, _ => h.elim
theorem Each.app : ∀ {es fs : List α} {xs ys : List V}, Each R H es xs → Each R H fs ys → Each R H (es ++ fs) (xs ++ ys)
  | [], _, [], _, _, h => h
  | _ :: _, _, _ :: _, _, ⟨h1, h2⟩, h => ⟨h1, Each.app h2 h⟩
  | [], _, _ :: _, _, h, _ => h.elim
  | _ :: _, _, [], _, h, _ => h.elim
end
theorem Each.imp {α : Type} {R R' : Hp → α → V → Prop} {H H' : Hp} (m : ∀ a v, R H a v → R' H' a v) : ∀ {es : List α} {xs : List V}, Each R H es xs → Each R' H' es xs
  | [], [], _ => trivial
  | _ :: _, _ :: _, ⟨h1, h2⟩ => ⟨m _ _ h1, Each.imp m h2⟩
  | [], _ :: _, h => h.elim
  | _ :: _, [], h => h.elim
end S4
namespace S4
open PySem L2
/-! ### the same rules with the written part named -/
def rTupOf (K : PySem.W.Frag) : List V → Hp → VK → Prop := fun xs H Q => ∃ p ys, xs = [.ref p] ∧ ((SqL K H p ys ∧ ∀ l, H l = none → Q (.ref l) (upd H l (.tup ys))) ∨ (SqT K H p ys ∧ Q (.ref p) H))
def rLstOf (K : PySem.W.Frag) : List V → Hp → VK → Prop := fun xs H Q => ∃ p ys, xs = [.ref p] ∧ (SqL K H p ys ∨ SqT K H p ys) ∧ ∀ l, H l = none → Q (.ref l) (upd H l (.lst ys))
def rLenQ (K : PySem.W.Frag) : List V → Hp → VK → Prop := fun xs H Q => ∃ p ys, xs = [.ref p] ∧ (SqL K H p ys ∨ SqT K H p ys) ∧ Q (.int ys.length) H
section
variable {X : Cx}
theorem call_tupK : CallR X (.type "tuple") (rTupOf X.K) := call_tuple_of
theorem call_lstK : CallR X (.type "list") (rLstOf X.K) := call_list_of
theorem call_lenK : CallR X (.builtin "len") (rLenQ X.K) := call_len_seq
theorem pe_fldK {K : PySem.W.Frag} {e : Expr} {f : Str} {pos : Pos} {ta : TE} (ha : PE X e ta) (hb : attributeBase e f X.env (eval e X.env) = eval e X.env) (hk : X.K = K := by rfl) : PE X (.Attribute e f pos) (tFld K ta f) := hk ▸ pe_fld ha hb
end
end S4
namespace S4
open PySem L2
/-! ### the draws -/
def But (H H' : Hp) (st c : Addr) : Prop := ∀ b o, H b = some o → b ≠ st → b ≠ c → H' b = some o
theorem But.refl (H : Hp) (st c : Addr) : But H H st c := fun _ _ e _ _ => e
structure StAt (H : Hp) (st c : Addr) : Prop where
  top : ∃ m : Int, H st = some (.lst [.ref c, .int m])
  cells : ∃ ns : List Int, ns.length ≤ 63 ∧ H c = some (.lst (ns.map V.int))
theorem StAt.ne {H : Hp} {st c : Addr} (S : StAt H st c) : st ≠ c := by
  obtain ⟨⟨m, h1⟩, ⟨ns, _, h2⟩⟩ := S
  refine ne_of h1 h2 fun e => ?_
  injection e with e
  cases ns with
  | nil => cases e
  | cons a r => cases e
/-- the heap without the state's two lists -/
def Off (H : Hp) (st c : Addr) : Hp := fun b => if b = st ∨ b = c then none else H b
theorem off_get {H : Hp} {st c b : Addr} {o : HO} (h : Off H st c b = some o) : H b = some o ∧ b ≠ st ∧ b ≠ c := by
  unfold Off at h
  split at h
  · cases h
  · rename_i z
    exact ⟨h, fun e => z (.inl e), fun e => z (.inr e)⟩
theorem off_of {H : Hp} {st c b : Addr} {o : HO} (h : H b = some o) (h1 : b ≠ st) (h2 : b ≠ c) : Off H st c b = some o := by
  unfold Off
  rw [if_neg (fun z => z.elim h1 h2)]
  exact h
theorem off_same (H : Hp) (st c : Addr) : Same (Off H st c) H := fun b o e => (off_get e).1
theorem off_none {H : Hp} {st c b : Addr} (h : H b = none) : Off H st c b = none := by
  unfold Off
  split
  · rfl
  · exact h
theorem off_upd {H : Hp} {st c d : Addr} {o : HO} (h1 : d ≠ st) (h2 : d ≠ c) : Off (upd H d o) st c = upd (Off H st c) d o := by
  funext b
  unfold Off
  by_cases z : b = st ∨ b = c
  · rw [if_pos z]
    have : b ≠ d := fun e => z.elim (fun y => h1 (e.symm.trans y)) (fun y => h2 (e.symm.trans y))
    rw [upd_ne this, if_pos z]
  · rw [if_neg z]
    by_cases y : b = d
    · rw [y, upd_same, upd_same]
    · rw [upd_ne y, upd_ne y, if_neg z]
theorem StAt.free {H : Hp} {st c p : Addr} (S : StAt H st c) (h : H p = none) : p ≠ st ∧ p ≠ c := by
  obtain ⟨⟨m, h1⟩, ⟨ns, _, h2⟩⟩ := S
  exact ⟨fun e => (by rw [e, h1] at h; cases h), fun e => (by rw [e, h2] at h; cases h)⟩
theorem stAt_upd {H : Hp} {st c d : Addr} {o : HO} (S : StAt H st c) (h1 : d ≠ st) (h2 : d ≠ c) : StAt (upd H d o) st c := by
  obtain ⟨⟨m, e1⟩, ⟨ns, l, e2⟩⟩ := S
  exact ⟨⟨m, by rw [upd_ne h1.symm]; exact e1⟩, ⟨ns, l, by rw [upd_ne h2.symm]; exact e2⟩⟩
/-- what was there beside the state stands; the state stands -/
structure Go (st c : Addr) (H H' : Hp) : Prop where
  same : Same (Off H st c) (Off H' st c)
  st : StAt H' st c
theorem Go.refl {st c : Addr} {H : Hp} (S : StAt H st c) : Go st c H H := ⟨Same.refl _, S⟩
theorem Go.trans {st c : Addr} {H H1 H2 : Hp} (a : Go st c H H1) (b : Go st c H1 H2) : Go st c H H2 := ⟨a.same.trans b.same, b.st⟩
theorem Go.new {st c p : Addr} {H : Hp} (S : StAt H st c) (np : H p = none) (o : HO) : Go st c H (upd H p o) ∧ Off (upd H p o) st c p = some o := by
  obtain ⟨h1, h2⟩ := S.free np
  have e := off_upd (H := H) (o := o) h1 h2
  refine ⟨⟨?_, stAt_upd S h1 h2⟩, by rw [e]; exact upd_same⟩
  rw [e]
  exact new_same (off_none np) o
theorem Go.of_same {st c : Addr} {H H' : Hp} (S : StAt H st c) (s : Same H H') : Go st c H H' := by
  refine ⟨fun b o e => ?_, ?_⟩
  · obtain ⟨e1, h1, h2⟩ := off_get e
    exact off_of (s _ _ e1) h1 h2
  · obtain ⟨⟨m, e1⟩, ⟨ns, l, e2⟩⟩ := S
    exact ⟨⟨m, s _ _ e1⟩, ⟨ns, l, s _ _ e2⟩⟩
def spState (K : PySem.W.Frag) : Sp := fun vs H Q _ => ∃ (a : Addr) (ns : List Int), vs = [.ref a] ∧ SqL K H a (ns.map V.int) ∧ ns.length ≤ 63 ∧ ∀ (st c : Addr) (H' : Hp), Same H H' → H st = none → H c = none → StAt H' st c → Q (.ref st) H'
def spDraw : Sp := fun vs H Q _ => ∃ (st c : Addr) (many : Int), vs = [.ref st, .int many] ∧ StAt H st c ∧ 0 < many ∧ many < 1000000 ∧
  ∀ (r : Int) (H' : Hp), 0 ≤ r → r < many → Go st c H H' → Q (.int r) H'
section
variable {P : Program} {w : World} {K : PySem.W.Frag} {mg : Str → Option Value} {base : Heap} {D : Defs}
theorem sc_state : FnScope ["script", "seed", "cell"] ["script"] (defScope s__law_state) := ⟨rfl, rfl, rfl, by decide +kernel, rfl, by decide +kernel, by decide +kernel⟩
theorem ok_state (O : Ok P K mg D) : FnOk P w K mg base CX0 1 D.f_law_state D.d_law_state ["script"] (spState K) := by
  refine O.F_law_state.ok sc_state (fun vs H Q E h => ?_) (fun cdv A outer s H vs Q E hr h => ?_)
  · obtain ⟨a, ns, rfl, _⟩ := h
    rfl
  obtain ⟨a, ns, rfl, hS, hlen, q⟩ := h
  refine ⟨_, pss_cons (ps_set (i := 1) sc_state.nd rfl (Or.inl rfl) pe_int)
    (pss_cons (ps_for PassesOwn.never rfl (pi_list (pv 0)) (pg_name (i := 2) sc_state.nd rfl (Or.inl rfl))
      (pss_one (ps_set (i := 1) sc_state.nd rfl (Or.inl rfl) (pe_op op_mod (pe_callTy call_int1 (by rfl) O.zint PyProof.Rows.boot_int (pa_cons (pe_op op_add (pe_op op_mul (pv 1) pe_int) (pv 2)) pa_nil)) pe_int))))
    (pss_one (ps_ret (pe_lst (pa_cons
      (pe_lc (own := [("cell", 2)]) (g := gName 2) (by rfl) sc_state.nd (pi_list (pv 0)) (blkOk_by (own := [("cell", 2)]) (N := ["script", "seed", "cell"]) (sc := defScope s__law_state) (by decide +kernel))
        (fun _ _ _ _ _ => pg_name (i := 2) sc_state.nd rfl (Or.inl rfl)) (fun _ _ _ _ _ => pts_nil) (fun _ _ _ _ _ => pe_callB call_abs (by rfl) O.zabs PyProof.Rows.boot_abs (pa_cons (pv 2) pa_nil)))
      (pa_cons (pe_op op_add (pv 1) pe_int) pa_nil)))))), ?_⟩
  refine ⟨_, rfl, a, rfl, ⟨_, hS⟩, for_list (K := K) (a := a) (xs := ns.map V.int) (fun i σ H2 => ∃ (z : Int) (v : Option V), σ = [some (.ref a), some (.int z), v] ∧ H2 = H ∧ 0 ≤ z ∧ z < 1000003)
      ⟨7, none, rfl, rfl, by decide, by decide⟩ (fun i σ H2 _ ⟨_, _, _, e, _⟩ => by rw [e]; exact hS) ?_ ?_⟩
  · rintro i y σ H2 hi ⟨z, v, rfl, rfl, hz, hz'⟩
    obtain ⟨n, rfl⟩ : ∃ n, y = V.int n := by
      obtain ⟨n, _, e⟩ := List.mem_map.mp (List.mem_of_getElem? hi)
      exact ⟨n, e.symm⟩
    refine ⟨_, rfl, _, _, rfl, rfl, .inl ⟨by omega, by omega⟩, _, rfl, _, _, rfl, rfl, .inl ⟨_, rfl, _, _, rfl, rfl, (by show (0 : Int) < 1000003; decide), ?_⟩⟩
    exact ⟨_, _, rfl, rfl, Int.emod_nonneg _ (by decide), Int.emod_lt_of_pos _ (by decide)⟩
  · rintro σ H2 ⟨z, v, rfl, rfl, hz, hz'⟩
    refine ⟨_, rfl, a, rfl, ⟨_, hS⟩, fun c nc => lc_list (K := K) (a := a) (xs := ns.map V.int) (fun i H3 => ∃ ms : List Int, ms.length = i ∧ H3 = upd H2 c (.lst (ms.map V.int)))
      ⟨[], rfl, rfl⟩ (fun i H3 _ ⟨ms, _, e⟩ => by rw [e]; exact (new_same nc _).seq hS) ?_ ?_⟩
    · rintro i y H3 hi ⟨ms, hm, rfl⟩
      obtain ⟨n, rfl⟩ : ∃ n, y = V.int n := by
        obtain ⟨n, _, e⟩ := List.mem_map.mp (List.mem_of_getElem? hi)
        exact ⟨n, e.symm⟩
      have hil : i < ns.length := by
        have := (List.getElem?_eq_some_iff.mp hi).1
        rwa [List.length_map] at this
      refine ⟨rfl, yes (iteT ?_)⟩
      refine ⟨_, rfl, _, rfl, ms.map V.int, upd_same, (by rw [List.length_map]; exact small1000 (by omega)), ms ++ [if n < 0 then -n else n], by rw [List.length_append, hm]; rfl, ?_⟩
      rw [upd_upd, List.map_append]
      rfl
    · rintro H3 ⟨ms, hm, rfl⟩
      refine ⟨_, rfl, _, _, rfl, rfl, (by show 2 ≤ sizeLine; decide), fun st nst => ?_⟩
      have hcs : st ≠ c := fun e => by rw [e, upd_same] at nst; cases nst
      refine q st c _ ((new_same nc _).trans (new_same nst _)) ((new_same nc _).free nst) nc ⟨⟨z + 1, upd_same⟩, ⟨ms, ?_, ?_⟩⟩
      · rw [hm, List.length_map]; exact hlen
      · rw [upd_ne hcs.symm]; exact upd_same
theorem But.go {st c : Addr} {H H' : Hp} (b : But H H' st c) (S : StAt H' st c) : Go st c H H' := ⟨fun x o e => by
  obtain ⟨e1, h1, h2⟩ := off_get e
  exact off_of (b _ _ e1 h1 h2) h1 h2, S⟩
theorem sc_draw : FnScope ["state", "many", "cells", "value", "mixed"] ["state", "many"] (defScope s__law_draw) := ⟨rfl, rfl, rfl, by decide +kernel, rfl, by decide +kernel, by decide +kernel⟩
theorem ok_draw (O : Ok P K mg D) : FnOk P w K mg base CX0 1 D.f_law_draw D.d_law_draw ["state", "many"] spDraw := by
  refine O.F_law_draw.ok sc_draw (fun vs H Q E h => ?_) (fun cdv A outer s H vs Q E hr h => ?_)
  · obtain ⟨st, c, many, rfl, _⟩ := h
    rfl
  obtain ⟨st, c, many, rfl, S, hm0, hm1, q⟩ := h
  have hne := S.ne
  refine ⟨_, pss_cons (ps_set (i := 2) sc_draw.nd rfl (Or.inl rfl) (pe_ix ix_list (pv 0) pe_int (fun _ _ => rfl)))
    (pss_cons (ps_while PassesOwn.never (PW.pt (pw_and (pt_cmpR op_gt (pe_callB call_len_seq (by rfl) O.zlen PySem.boot_len (pa_cons (pv 2) pa_nil)) pe_int (nomark _)) (pw_and1 (pt_cmpR op_eq (pe_ix ix_list (pv 2) pe_int (fun _ _ => rfl)) pe_int (nomark _)))))
      (pss_one (ps_expr (pe_bm PySem.F.plainAttrs_list PySem.F.slot_list_pop PySem.F.type_list_pop mt_popAt (pv 2) (pa_cons pe_int pa_nil)))))
    (pss_cons (ps_if (pt_cmpR op_gt (pe_callB call_len_seq (by rfl) O.zlen PySem.boot_len (pa_cons (pv 2) pa_nil)) pe_int (nomark _))
      (pss_cons (ps_set (i := 3) sc_draw.nd rfl (Or.inl rfl) (pe_ix ix_list (pv 2) pe_int (fun _ _ => rfl)))
      (pss_cons (ps_asg (pe_op op_fdiv (pv 3) (pv 1)) (pg_sub (pv 2) pe_int set_list))
      (pss_one (ps_ret (pe_op op_mod (pe_callTy call_int1 (by rfl) O.zint PyProof.Rows.boot_int (pa_cons (pv 3) pa_nil)) (pv 1)))))) pss_nil)
    (pss_cons (ps_set (i := 4) sc_draw.nd rfl (Or.inl rfl) (pe_op op_mod (pe_callTy call_int1 (by rfl) O.zint PyProof.Rows.boot_int (pa_cons (pe_op op_add (pe_op op_mul (pe_ix ix_list (pv 0) pe_int (fun _ _ => rfl)) pe_int) pe_int) pa_nil)) pe_int))
    (pss_cons (ps_asg (pv 4) (pg_sub (pv 0) pe_int set_list))
    (pss_one (ps_ret (pe_op op_mod (pe_callTy call_int1 (by rfl) O.zint PyProof.Rows.boot_int (pa_cons (pe_op op_fdiv (pv 4) pe_int) pa_nil)) (pv 1)))))))), ?_⟩
  obtain ⟨⟨m, hst⟩, ⟨ns0, hl0, hc0⟩⟩ := S
  refine ⟨_, rfl, st, _, _, _, rfl, rfl, SqL.of hst, at_of (j := 0) rfl rfl, ?_⟩
  refine ⟨fun n σ H2 => ∃ ns : List Int, n = ns.length ∧ ns.length ≤ 63 ∧ σ = [some (.ref st), some (.int many), some (.ref c), none, none] ∧ H2 st = some (.lst [.ref c, .int m]) ∧ H2 c = some (.lst (ns.map V.int)) ∧ But H H2 st c,
    ⟨_, ns0, rfl, hl0, rfl, hst, hc0, But.refl _ _ _⟩, ?_⟩
  rintro n σ H2 ⟨ns, rfl, hl, rfl, hst2, hc2, hb⟩
  refine ⟨_, rfl, c, _, rfl, .inl (SqL.of hc2), _, _, rfl, rfl, _, rfl, ?_⟩
  cases ns with
  | nil =>
    refine iteF (iteF ?_)
    refine ⟨_, rfl, c, _, rfl, .inl (SqL.of hc2), _, _, rfl, rfl, _, rfl, iteF ?_⟩
    refine ⟨_, rfl, st, _, _, _, rfl, rfl, SqL.of hst2, at_of (j := 1) rfl rfl, _, _, rfl, rfl, .inr ⟨by decide, by decide⟩, _, _, rfl, rfl, .inl ⟨_, rfl, _, _, rfl, rfl, (by show (0 : Int) < 2147483647; decide), ?_⟩⟩
    refine ⟨_, rfl, _, rfl, st, _, _, 1, rfl, rfl, hst2, rfl, ?_⟩
    refine ⟨_, rfl, _, _, rfl, rfl, ⟨by decide, by decide⟩, .inl ⟨_, rfl, _, rfl, _, _, rfl, rfl, hm0, ?_⟩⟩
    refine q _ _ (Int.emod_nonneg _ (by omega)) (Int.emod_lt_of_pos _ hm0) (But.go ?_ ⟨⟨_, upd_same⟩, ⟨[], by decide, ?_⟩⟩)
    · intro b o e h1 h2
      rw [upd_ne h1]
      exact hb b o e h1 h2
    · rw [upd_ne hne.symm]; exact hc2
  | cons n ns =>
    have hpos : decide ((0 : Int) < (((n :: ns).map V.int).length : Nat)) = true := decide_eq_true (by rw [List.length_map, List.length_cons]; omega)
    rw [hpos]
    refine iteT ⟨_, rfl, c, _, _, _, rfl, rfl, SqL.of hc2, at_of (j := 0) rfl rfl, rfl, _, rfl, ite2 (fun z => ?_) (fun z => ?_)⟩
    · refine ⟨fun σ' H' => ∃ m', m' < (n :: ns).length ∧ ∃ ns' : List Int, m' = ns'.length ∧ ns'.length ≤ 63 ∧ σ' = [some (.ref st), some (.int many), some (.ref c), none, none] ∧ H' st = some (.lst [.ref c, .int m]) ∧ H' c = some (.lst (ns'.map V.int)) ∧ But H H' st c,
        fun σ' H' h => h, ?_⟩
      refine ⟨_, rfl, .inl ⟨rfl, _, SqL.of hc2⟩, c, _, _, 0, _, rfl, rfl, hc2, by decide, by decide, by simp [seqIndex?], rfl, ?_⟩
      refine ⟨ns.length, by simp, ns, rfl, by simp at hl; omega, rfl, ?_, ?_, ?_⟩
      · rw [upd_ne hne]; exact hst2
      · exact upd_same
      · intro b o e h1 h2
        rw [upd_ne h2]
        exact hb b o e h1 h2
    · refine ⟨_, rfl, c, _, rfl, .inl (SqL.of hc2), _, _, rfl, rfl, _, rfl, ?_⟩
      rw [hpos]
      refine iteT ⟨_, rfl, c, _, _, _, rfl, rfl, SqL.of hc2, at_of (j := 0) rfl rfl, ?_⟩
      refine ⟨_, rfl, _, rfl, _, _, rfl, rfl, ⟨hm0, by omega⟩, _, rfl, c, _, _, 0, rfl, rfl, hc2, by simp [ixN], ?_⟩
      refine ⟨_, rfl, .inl ⟨_, rfl, _, rfl, _, _, rfl, rfl, hm0, ?_⟩⟩
      refine q _ _ (Int.emod_nonneg _ (by omega)) (Int.emod_lt_of_pos _ hm0) (But.go ?_ ⟨⟨m, ?_⟩, ⟨(n / many) :: ns, by simpa using hl, ?_⟩⟩)
      · intro b o e h1 h2
        rw [upd_ne h2]
        exact hb b o e h1 h2
      · rw [upd_ne hne]; exact hst2
      · exact upd_same
end
end S4
namespace S4
open PySem L2
/-! ### attributes by name -/
theorem putF_hit (f : Str) (v x : V) (r : List (Str × V)) : putF f v ((f, x) :: r) = (f, v) :: r := if_pos rfl
theorem putF_miss {f g : Str} (h : ¬ g = f) (v x : V) (r : List (Str × V)) : putF f v ((g, x) :: r) = (g, x) :: putF f v r := if_neg h
theorem lk_hit (f : Str) (x : V) (r : List (Str × V)) : List.lookup f ((f, x) :: r) = some x := by
  simp only [List.lookup, beq_self_eq_true]
theorem lk_miss {f g : Str} (h : ¬ g = f) (x : V) (r : List (Str × V)) : List.lookup g ((f, x) :: r) = List.lookup g r := by
  have hb : (g == f) = false := beq_eq_false_iff_ne.mpr h
  simp only [List.lookup, hb]
end S4
namespace S4
open PySem L2
/-! ### what a piece of the program may change -/
/-- only what stands at fp may have changed; what stands at fp' was there or is new; tuples stay -/
structure Chg (fp fp' : List Addr) (H H' : Hp) : Prop where
  keep : ∀ a o, H a = some o → a ∉ fp → H' a = some o
  tups : ∀ a xs, H a = some (.tup xs) → H' a = some (.tup xs)
  dom : ∀ a, H' a = none → H a = none
  new : ∀ a, a ∈ fp' → a ∈ fp ∨ H a = none
section
variable {fp fp' gp gp' r : List Addr} {H H1 H2 H' : Hp} {a p : Addr} {o : HO}
theorem Chg.refl (fp : List Addr) (H : Hp) : Chg fp fp H H := ⟨fun _ _ h _ => h, fun _ _ h => h, fun _ h => h, fun _ h => .inl h⟩
theorem Chg.trans (x : Chg fp gp H H1) (y : Chg gp fp' H1 H2) : Chg fp fp' H H2 where
  keep := fun a o e n => y.keep a o (x.keep a o e n) fun z => (x.new a z).elim n fun w => by rw [w] at e; cases e
  tups := fun a xs e => y.tups a xs (x.tups a xs e)
  dom := fun a e => x.dom a (y.dom a e)
  new := fun a z => (y.new a z).elim (x.new a) fun w => .inr (x.dom a w)
theorem Chg.mono (x : Chg fp fp' H H') (h1 : ∀ a, a ∈ fp → a ∈ gp) (h2 : ∀ a, a ∈ gp' → a ∈ fp' ∨ a ∈ gp) : Chg gp gp' H H' where
  keep := fun a o e n => x.keep a o e fun z => n (h1 a z)
  tups := x.tups
  dom := x.dom
  new := fun a z => (h2 a z).elim (fun w => (x.new a w).imp (h1 a) id) .inl
theorem Chg.same (s : Same H H') (d : ∀ a, H' a = none → H a = none) : Chg fp fp H H' := ⟨fun a o e _ => s a o e, fun a xs e => s _ _ e, d, fun _ h => .inl h⟩
theorem dom_same (s : Same H H') : ∀ a, H' a = none → H a = none := fun _ e => s.free e
/-- a new object that belongs to the piece -/
theorem Chg.mk1 (n : H p = none) (o : HO) : Chg fp (p :: fp) H (upd H p o) where
  keep := fun a u e _ => by rw [upd_ne (ne_of_none e n)]; exact e
  tups := fun a u e => by rw [upd_ne (ne_of_none e n)]; exact e
  dom := fun a e => by
    by_cases z : a = p
    · rw [z]; exact n
    · rw [upd_ne z] at e; exact e
  new := fun a z => (List.mem_cons.mp z).elim (fun w => .inr (by rw [w]; exact n)) .inl
/-- a new object that nobody changes -/
theorem Chg.mk0 (n : H p = none) (o : HO) : Chg fp fp H (upd H p o) := (Chg.mk1 n o).mono (fun _ h => h) fun _ h => .inr h
theorem Chg.set (e : H a = some o) (m : a ∈ fp) (t : ∀ xs, o ≠ .tup xs) (o' : HO) : Chg fp fp H (upd H a o') where
  keep := fun b u h n => by rw [upd_ne fun z => n (by rw [z]; exact m)]; exact h
  tups := fun b u h => by
    rw [upd_ne fun z => ?_]
    · exact h
    · rw [z, e] at h; exact t u (Option.some.inj h)
  dom := fun b h => by
    by_cases z : b = a
    · rw [z, upd_same] at h; cases h
    · rw [upd_ne z] at h; exact h
  new := fun _ h => .inl h
theorem Chg.get (x : Chg fp fp' H H') (e : H a = some o) (n : a ∉ fp) : H' a = some o := x.keep a o e n
end
theorem no1 {a x : Addr} (h : a ≠ x) : a ∉ [x] := fun z => h (List.mem_singleton.mp z)
theorem no2 {a x y : Addr} (h : a ≠ x) (h' : a ≠ y) : a ∉ [x, y] := fun z => (List.mem_cons.mp z).elim h (no1 h')
theorem no3 {a x y z : Addr} (h : a ≠ x) (h' : a ≠ y) (h'' : a ≠ z) : a ∉ [x, y, z] := fun w => (List.mem_cons.mp w).elim h (no2 h' h'')
/-! ### data made of tuples -/
mutual
/-- v is the datum: ints, texts, bools, None, tuples of such -/
def Ft (H : Hp) : PyData → V → Prop
  | .none, v => v = .non
  | .bool b, v => v = .bl b
  | .int i, v => v = .int i
  | .str x, v => v = .str x
  | .tuple ds, v => ∃ p xs, v = .ref p ∧ H p = some (.tup xs) ∧ FtAll H ds xs
  | .list _, _ => False
  | .dict _, _ => False
def FtAll (H : Hp) : List PyData → List V → Prop
  | [], [] => True
  | d :: ds, x :: xs => Ft H d x ∧ FtAll H ds xs
  | _, _ => False
end
abbrev Tups (H H' : Hp) : Prop := ∀ a xs, H a = some (.tup xs) → H' a = some (.tup xs)
section
variable {H H' : Hp}
theorem FtAll.nil : FtAll H [] [] := by unfold FtAll; trivial
theorem FtAll.cons {d : PyData} {ds : List PyData} {x : V} {xs : List V} (h : Ft H d x) (h' : FtAll H ds xs) : FtAll H (d :: ds) (x :: xs) := by unfold FtAll; exact ⟨h, h'⟩
theorem FtAll.un {d : PyData} {ds : List PyData} {x : V} {xs : List V} (h : FtAll H (d :: ds) (x :: xs)) : Ft H d x ∧ FtAll H ds xs := by unfold FtAll at h; exact h
theorem FtAll.no1 {x : V} {xs : List V} (h : FtAll H [] (x :: xs)) : False := by unfold FtAll at h; exact h
theorem FtAll.no2 {d : PyData} {ds : List PyData} (h : FtAll H (d :: ds) []) : False := by unfold FtAll at h; exact h
theorem Ft.tup {ds : List PyData} {v : V} (h : Ft H (.tuple ds) v) : ∃ p xs, v = .ref p ∧ H p = some (.tup xs) ∧ FtAll H ds xs := by unfold Ft at h; exact h
theorem Ft.mkTup {ds : List PyData} {p : Addr} {xs : List V} (h : H p = some (.tup xs)) (h' : FtAll H ds xs) : Ft H (.tuple ds) (.ref p) := by unfold Ft; exact ⟨p, xs, rfl, h, h'⟩
theorem Ft.mkInt (i : Int) : Ft H (.int i) (.int i) := by unfold Ft; rfl
theorem Ft.int {i : Int} {v : V} (h : Ft H (.int i) v) : v = .int i := by unfold Ft at h; exact h
theorem Ft.mkStr (i : Str) : Ft H (.str i) (.str i) := by unfold Ft; rfl
theorem Ft.str {i : Str} {v : V} (h : Ft H (.str i) v) : v = .str i := by unfold Ft at h; exact h
mutual
theorem Ft.mono (s : Tups H H') : ∀ {d : PyData} {v : V}, Ft H d v → Ft H' d v
  | .none, _, h => by unfold Ft at h ⊢; exact h
  | .bool _, _, h => by unfold Ft at h ⊢; exact h
  | .int _, _, h => by unfold Ft at h ⊢; exact h
  | .str _, _, h => by unfold Ft at h ⊢; exact h
  | .tuple _, _, h => by
    obtain ⟨p, xs, rfl, h1, h2⟩ := h.tup
    exact Ft.mkTup (s _ _ h1) (FtAll.mono s h2)
  | .list _, _, h => by unfold Ft at h; exact h.elim
  | .dict _, _, h => by unfold Ft at h; exact h.elim
theorem FtAll.mono (s : Tups H H') : ∀ {ds : List PyData} {vs : List V}, FtAll H ds vs → FtAll H' ds vs
  | [], [], _ => .nil
  | _ :: _, _ :: _, h => .cons (Ft.mono s h.un.1) (FtAll.mono s h.un.2)
  | [], _ :: _, h => h.no1.elim
  | _ :: _, [], h => h.no2.elim
end
theorem FtAll.len : ∀ {ds : List PyData} {vs : List V}, FtAll H ds vs → vs.length = ds.length
  | [], [], _ => rfl
  | _ :: _, _ :: _, h => congrArg (· + 1) h.un.2.len
  | [], _ :: _, h => h.no1.elim
  | _ :: _, [], h => h.no2.elim
theorem FtAll.get : ∀ {ds : List PyData} {vs : List V} {i : Nat} {d : PyData}, FtAll H ds vs → ds[i]? = some d → ∃ x, vs[i]? = some x ∧ Ft H d x
  | [], [], i, x, _, e => by cases i <;> cases e
  | _ :: _, y :: _, 0, x, h, e => ⟨y, rfl, by cases e; exact h.un.1⟩
  | _ :: _, _ :: _, i + 1, x, h, e => h.un.2.get (i := i) e
  | [], _ :: _, _, _, h, _ => h.no1.elim
  | _ :: _, [], _, _, h, _ => h.no2.elim
theorem FtAll.app : ∀ {ds es : List PyData} {xs ys : List V}, FtAll H ds xs → FtAll H es ys → FtAll H (ds ++ es) (xs ++ ys)
  | [], _, [], _, _, h => h
  | _ :: _, _, _ :: _, _, h', h => .cons h'.un.1 (h'.un.2.app h)
  | [], _, _ :: _, _, h, _ => h.no1.elim
  | _ :: _, _, [], _, h, _ => h.no2.elim
theorem FtAll.set : ∀ {ds : List PyData} {vs : List V} {d : PyData} {x : V} (i : Nat), FtAll H ds vs → Ft H d x → FtAll H (ds.set i d) (vs.set i x)
  | [], [], _, _, _, _, _ => .nil
  | _ :: _, _ :: _, _, _, 0, h, e => .cons e h.un.2
  | _ :: _, _ :: _, _, _, i + 1, h, e => .cons h.un.1 (h.un.2.set i e)
  | [], _ :: _, _, _, _, h, _ => h.no1.elim
  | _ :: _, [], _, _, _, h, _ => h.no2.elim
theorem FtAll.ints : ∀ {ns : List Int}, FtAll H (ns.map .int) (ns.map V.int)
  | [] => .nil
  | n :: _ => .cons (Ft.mkInt n) FtAll.ints
theorem FtAll.ints_eq : ∀ {ns : List Int} {vs : List V}, FtAll H (ns.map .int) vs → vs = ns.map V.int
  | [], [], _ => rfl
  | _ :: _, _ :: _, h => by rw [h.un.1.int, h.un.2.ints_eq]; rfl
  | [], _ :: _, h => h.no1.elim
  | _ :: _, [], h => h.no2.elim
mutual
theorem Ft.dp (K : PySem.W.Frag) : ∀ {d : PyData} {v : V}, Ft H d v → Dp K H v d
  | .none, _, h => by unfold Ft at h; subst h; exact .non
  | .bool _, _, h => by unfold Ft at h; subst h; exact .bl _
  | .int _, _, h => by unfold Ft at h; subst h; exact .int _
  | .str _, _, h => by unfold Ft at h; subst h; exact .str _
  | .tuple _, _, h => by
    obtain ⟨p, xs, rfl, h1, h2⟩ := h.tup
    exact .tup (SqT.of h1) (FtAll.dp K h2)
  | .list _, _, h => by unfold Ft at h; exact h.elim
  | .dict _, _, h => by unfold Ft at h; exact h.elim
theorem FtAll.dp (K : PySem.W.Frag) : ∀ {ds : List PyData} {vs : List V}, FtAll H ds vs → DpAll K H vs ds
  | [], [], _ => .nil
  | _ :: _, _ :: _, h => .cons (Ft.dp K h.un.1) (FtAll.dp K h.un.2)
  | [], _ :: _, h => h.no1.elim
  | _ :: _, [], h => h.no2.elim
end
end
end S4
namespace S4
open PySem L2
/-! ### words, contents, writes as data -/
def wd (ws : List Int) : PyData := .tuple (ws.map .int)
def ct (cs : List (List Int)) : PyData := .tuple (cs.map wd)
def pw (p : Int × List Int) : PyData := .tuple [.int p.1, wd p.2]
def snap (dur : List (List Int)) (pend : List (Int × List Int)) : PyData := .tuple [ct dur, .tuple (pend.map pw)]
theorem Ft.ofWd {H : Hp} {ws : List Int} {v : V} (h : Ft H (wd ws) v) : ∃ p, v = .ref p ∧ H p = some (.tup (ws.map V.int)) := by
  obtain ⟨p, xs, e, h1, h2⟩ := Ft.tup h
  exact ⟨p, e, by rw [h1, h2.ints_eq]⟩
theorem Ft.mkWd {H : Hp} {ws : List Int} {p : Addr} (h : H p = some (.tup (ws.map V.int))) : Ft H (wd ws) (.ref p) := Ft.mkTup h .ints
/-! ### data that compare -/
def Shp (n : Nat) (d : PyData) : Prop := d.canLay0 = true ∧ d.depth ≤ n
theorem canAll : ∀ {ds : List PyData}, (∀ d ∈ ds, d.canLay0 = true) → PyData.canLayAll0 ds = true
  | [], _ => rfl
  | d :: ds, h => by
    rw [PyData.canLayAll0, h d (List.mem_cons_self ..), canAll fun x hx => h x (List.mem_cons_of_mem _ hx)]; rfl
theorem depAll {n : Nat} : ∀ {ds : List PyData}, (∀ d ∈ ds, d.depth ≤ n) → PyData.depthAll ds ≤ n
  | [], _ => Nat.zero_le _
  | d :: ds, h => by
    rw [PyData.depthAll]
    exact Nat.max_le.mpr ⟨h d (List.mem_cons_self ..), depAll fun x hx => h x (List.mem_cons_of_mem _ hx)⟩
theorem Shp.int (n : Nat) (i : Int) : Shp n (.int i) := ⟨by simp [PyData.canLay0], by simp [PyData.depth]⟩
theorem Shp.tuple {n : Nat} {ds : List PyData} (h : ∀ d ∈ ds, Shp n d) : Shp (n + 1) (.tuple ds) := by
  refine ⟨?_, ?_⟩
  · rw [PyData.canLay0]; exact canAll fun d hd => (h d hd).1
  · rw [PyData.depth]; exact Nat.succ_le_succ (depAll fun d hd => (h d hd).2)
theorem Shp.list {n : Nat} {ds : List PyData} (h : ∀ d ∈ ds, Shp n d) : Shp (n + 1) (.list ds) := by
  refine ⟨?_, ?_⟩
  · rw [PyData.canLay0]; exact canAll fun d hd => (h d hd).1
  · rw [PyData.depth]; exact Nat.succ_le_succ (depAll fun d hd => (h d hd).2)
theorem Shp.mono {n m : Nat} {d : PyData} (h : Shp n d) (l : n ≤ m) : Shp m d := ⟨h.1, Nat.le_trans h.2 l⟩
theorem Shp.ok {n : Nat} {d : PyData} (h : Shp n d) (l : n ≤ 64) : SeqAt.shaped d = true := by
  unfold SeqAt.shaped
  rw [h.1, decide_eq_true (Nat.le_trans h.2 l)]; rfl
theorem Shp.eq {n : Nat} {d : PyData} (h : Shp n d) : PyData.eqv d d = true := SeqAt.eqv_refl d h.1
theorem shp_wd (ws : List Int) : Shp 1 (wd ws) := Shp.tuple fun d hd => by
  obtain ⟨i, _, rfl⟩ := List.mem_map.mp hd
  exact Shp.int 0 i
theorem shp_ct (cs : List (List Int)) : Shp 2 (ct cs) := Shp.tuple fun d hd => by
  obtain ⟨i, _, rfl⟩ := List.mem_map.mp hd
  exact shp_wd i
theorem shp_pw (p : Int × List Int) : Shp 2 (pw p) := Shp.tuple fun d hd => by
  rcases List.mem_cons.mp hd with rfl | hd
  · exact Shp.int 1 _
  · rw [List.mem_singleton.mp hd]; exact shp_wd _
theorem shp_snap (dur : List (List Int)) (pend : List (Int × List Int)) : Shp 4 (snap dur pend) := Shp.tuple fun d hd => by
  rcases List.mem_cons.mp hd with rfl | hd
  · exact (shp_ct _).mono (by decide)
  · rw [List.mem_singleton.mp hd]
    refine Shp.tuple fun d hd => ?_
    obtain ⟨i, _, rfl⟩ := List.mem_map.mp hd
    exact shp_pw i
/-! ### a disk -/
theorem nd_dp : ¬ (("_durable" : Str) = "_pending") := by decide +kernel
theorem nd_dv : ¬ (("_durable" : Str) = "_visible") := by decide +kernel
theorem nd_pv : ¬ (("_pending" : Str) = "_visible") := by decide +kernel
def df (du pe vi : V) : List (Str × V) := [("_durable", du), ("_pending", pe), ("_visible", vi)]
theorem df_durable (du pe vi : V) : (df du pe vi).lookup ("_durable" : Str) = some du := lk_hit _ _ _
theorem df_pending (du pe vi : V) : (df du pe vi).lookup ("_pending" : Str) = some pe := (lk_miss (fun e => nd_dp e.symm) _ _).trans (lk_hit _ _ _)
theorem df_visible (du pe vi : V) : (df du pe vi).lookup ("_visible" : Str) = some vi := (lk_miss (fun e => nd_dv e.symm) _ _).trans ((lk_miss (fun e => nd_pv e.symm) _ _).trans (lk_hit _ _ _))
theorem df_put1 (du pe vi x : V) : putF "_durable" x (df du pe vi) = df x pe vi := putF_hit _ _ _ _
theorem df_put2 (du pe vi x : V) : putF "_pending" x (df du pe vi) = df du x vi := (putF_miss nd_dp _ _ _).trans (by rw [putF_hit]; rfl)
theorem df_no {m : Str} (h1 : ¬ m = "_durable") (h2 : ¬ m = "_pending") (h3 : ¬ m = "_visible") (du pe vi : V) : (df du pe vi).lookup m = none :=
  (lk_miss h1 _ _).trans ((lk_miss h2 _ _).trans ((lk_miss h3 _ _).trans rfl))
theorem df_new (du pe vi : V) : putF "_visible" vi (putF "_pending" pe (putF "_durable" du [])) = df du pe vi := by
  show putF "_visible" vi (putF "_pending" pe [("_durable", du)]) = _
  rw [putF_miss nd_dp]
  show putF "_visible" vi [("_durable", du), ("_pending", pe)] = _
  rw [putF_miss nd_dv, putF_miss nd_pv]
  rfl
theorem df_no_look (du pe vi : V) : (df du pe vi).lookup ("look" : Str) = none := df_no (by decide +kernel) (by decide +kernel) (by decide +kernel) _ _ _
theorem df_no_write (du pe vi : V) : (df du pe vi).lookup ("write" : Str) = none := df_no (by decide +kernel) (by decide +kernel) (by decide +kernel) _ _ _
theorem df_no_barrier (du pe vi : V) : (df du pe vi).lookup ("barrier" : Str) = none := df_no (by decide +kernel) (by decide +kernel) (by decide +kernel) _ _ _
theorem df_no_snapshot (du pe vi : V) : (df du pe vi).lookup ("snapshot" : Str) = none := df_no (by decide +kernel) (by decide +kernel) (by decide +kernel) _ _ _
/-- a disk at dk: its durable sectors, its pending writes (the list at pe), what a reader sees (the list at vi) -/
structure DkAt (C : Addr) (H : Hp) (dk pe vi : Addr) (dur : List (List Int)) (pend : List (Int × List Int)) (vis : List (List Int)) : Prop where
  ins : ∃ dx du, H dk = some (.ins C dx (df du (.ref pe) (.ref vi))) ∧ Ft H (ct dur) du
  pend : ∃ xs, H pe = some (.lst xs) ∧ FtAll H (pend.map pw) xs
  vis : ∃ xs, H vi = some (.lst xs) ∧ FtAll H (vis.map wd) xs
  ne : pe ≠ vi
section
variable {C dk pe vi : Addr} {H H' : Hp} {dur vis : List (List Int)} {pend : List (Int × List Int)} {fp fp' : List Addr}
theorem DkAt.nep (x : DkAt C H dk pe vi dur pend vis) : dk ≠ pe := by
  obtain ⟨⟨_, _, h, _⟩, ⟨_, h', _⟩, _, _⟩ := x
  exact ne_of h h' (by intro z; cases z)
theorem DkAt.nev (x : DkAt C H dk pe vi dur pend vis) : dk ≠ vi := by
  obtain ⟨⟨_, _, h, _⟩, _, ⟨_, h', _⟩, _⟩ := x
  exact ne_of h h' (by intro z; cases z)
theorem DkAt.keep (x : DkAt C H dk pe vi dur pend vis) (c : Chg fp fp' H H') (h1 : dk ∉ fp) (h2 : pe ∉ fp) (h3 : vi ∉ fp) : DkAt C H' dk pe vi dur pend vis := by
  obtain ⟨⟨dx, du, e1, e2⟩, ⟨xs, e3, e4⟩, ⟨ys, e5, e6⟩, n⟩ := x
  exact ⟨⟨dx, du, c.keep _ _ e1 h1, e2.mono c.tups⟩, ⟨xs, c.keep _ _ e3 h2, e4.mono c.tups⟩, ⟨ys, c.keep _ _ e5 h3, e6.mono c.tups⟩, n⟩
end
def spDInit (C : Addr) : Sp := fun vs H Q _ => ∃ (dk dx : Addr) (v : V) (dur : List (List Int)), vs = [.ref dk, v] ∧ H dk = some (.ins C dx []) ∧ Ft H (ct dur) v ∧ dur.length ≤ 100 ∧
  ∀ H' pe vi, Chg [dk] [dk, pe, vi] H H' → DkAt C H' dk pe vi dur [] dur → Q .non H'
def spLook (C : Addr) : Sp := fun vs H Q _ => ∃ (dk pe vi : Addr) (dur vis : List (List Int)) (pend : List (Int × List Int)) (s : Int) (ws : List Int), vs = [.ref dk, .int s] ∧ DkAt C H dk pe vi dur pend vis ∧ 0 ≤ s ∧ vis[s.toNat]? = some ws ∧
  ∀ H' l, H l = none → H' = upd H l (.lst (ws.map V.int)) → Q (.ref l) H'
def spWrite (C : Addr) : Sp := fun vs H Q _ => ∃ (dk pe vi w : Addr) (dur vis : List (List Int)) (pend : List (Int × List Int)) (s : Int) (ws : List Int), vs = [.ref dk, .int s, .ref w] ∧ DkAt C H dk pe vi dur pend vis ∧
  H w = some (.lst (ws.map V.int)) ∧ 0 ≤ s ∧ s.toNat < vis.length ∧ pend.length ≤ 10000 ∧
  ∀ H', Chg [dk, pe, vi] [dk, pe, vi] H H' → DkAt C H' dk pe vi dur (pend ++ [(s, ws)]) (vis.set s.toNat ws) → Q .non H'
def spBarrier (C : Addr) : Sp := fun vs H Q _ => ∃ (dk pe vi : Addr) (dur vis : List (List Int)) (pend : List (Int × List Int)), vs = [.ref dk] ∧ DkAt C H dk pe vi dur pend vis ∧
  ∀ H' pe', Chg [dk, pe, vi] [dk, pe', vi] H H' → DkAt C H' dk pe' vi vis [] vis → Q .non H'
def spSnap (C : Addr) : Sp := fun vs H Q _ => ∃ (dk pe vi : Addr) (dur vis : List (List Int)) (pend : List (Int × List Int)), vs = [.ref dk] ∧ DkAt C H dk pe vi dur pend vis ∧
  ∀ H' v, Chg [] [] H H' → Ft H' (snap dur pend) v → Q v H'
section
variable {P : Program} {w : World} {K : PySem.W.Frag} {mg : Str → Option Value} {base : Heap} {D : Defs}
theorem sc_Disk___init__ : FnScope ["self", "contents"] ["self", "contents"] (defScope s_Disk___init__) := ⟨rfl, rfl, rfl, by decide +kernel, rfl, by decide +kernel, by decide +kernel⟩
theorem ok_dinit (O : Ok P K mg D) : FnOk P w K mg base CX0 1 D.fDisk___init__ D.dDisk___init__ ["self", "contents"] (spDInit D.cDisk) := by
  refine O.FDisk___init__.ok sc_Disk___init__ (fun vs H Q E h => ?_) (fun cdv A outer s H vs Q E hr h => ?_)
  · obtain ⟨dk, dx, v, dur, rfl, _⟩ := h
    rfl
  obtain ⟨dk, dx, v, dur, rfl, hi, hv, hl, q⟩ := h
  have nd := sc_Disk___init__.nd
  have hu := hu_of hr
  have bk : ∀ own scope, blkC ["self", "contents"] (defScope s_Disk___init__) scope own = true → BlkOk ["self", "contents"] (defScope s_Disk___init__) scope own := fun own scope h => blkOk_by h
  refine ⟨_, (pss_cons (ps_fld (pv 0) (pv 1) rfl)
    (pss_cons (ps_fld (pv 0) (pe_lst pa_nil) rfl)
    (pss_one (ps_fld (pv 0) (pe_callTy (r := rLstOf K) call_lstK (by rfl) O.zlist PyProof.Rows.boot_list (pa_cons (pv 1) pa_nil)) rfl)))), ?_⟩
  obtain ⟨cp, cs, rfl, hc1, hc2⟩ := hv.tup
  refine ⟨_, rfl, _, rfl, dk, D.cDisk, dx, _, rfl, hi, O.clDisk, O.nDisk__durable, (by show 0 < 1000; decide), ?_⟩
  refine ⟨Nat.zero_le _, fun pe npe => ?_⟩
  have n1 : dk ≠ pe := fun e => by rw [e, upd_same] at npe; cases npe
  have npe0 : H pe = none := by rw [upd_ne n1.symm] at npe; exact npe
  refine ⟨_, rfl, dk, D.cDisk, dx, _, rfl, ((upd_ne n1).trans (upd_same)), O.clDisk, O.nDisk__pending, (by show 1 < 1000; decide), ?_⟩
  have n2 : cp ≠ dk := ne_of hc1 hi (by intro z; cases z)
  have n3 : cp ≠ pe := ne_of_none hc1 npe0
  refine ⟨_, rfl, cp, cs, rfl, .inr (SqT.of ((upd_ne n2).trans ((upd_ne n3).trans ((upd_ne n2).trans (hc1))))), fun vi nvi => ?_⟩
  have n4 : dk ≠ vi := fun e => by rw [e, upd_same] at nvi; cases nvi
  have n5 : pe ≠ vi := fun e => by rw [e, upd_ne n4.symm, upd_same] at nvi; cases nvi
  have nvi0 : H vi = none := by rw [upd_ne n4.symm, upd_ne n5.symm, upd_ne n4.symm] at nvi; exact nvi
  refine ⟨_, rfl, dk, D.cDisk, dx, _, rfl, ((upd_ne n4).trans (upd_same)), O.clDisk, O.nDisk__visible, (by show 2 < 1000; decide), ?_⟩
  have c1 : Chg [dk] [dk] H (upd H dk (.ins D.cDisk dx (putF "_durable" (.ref cp) []))) := Chg.set hi (List.mem_singleton.mpr rfl) (fun _ z => by cases z) _
  have c2 := c1.trans (Chg.mk1 ((upd_ne n1.symm).trans (npe0)) (.lst []))
  have c3 := c2.trans (Chg.set (a := dk) ((upd_ne n1).trans (upd_same)) (.tail _ (.head _)) (fun _ z => by cases z) (.ins D.cDisk dx (putF "_pending" (.ref pe) (putF "_durable" (.ref cp) []))))
  have c4 := c3.trans (Chg.mk1 (p := vi) ((upd_ne n4.symm).trans ((upd_ne n5.symm).trans ((upd_ne n4.symm).trans (nvi0)))) (.lst cs))
  have c5 := c4.trans (Chg.set (a := dk) ((upd_ne n4).trans (upd_same)) (.tail _ (.tail _ (.head _))) (fun _ z => by cases z) (.ins D.cDisk dx (putF "_visible" (.ref vi) (putF "_pending" (.ref pe) (putF "_durable" (.ref cp) [])))))
  refine q _ pe vi (c5.mono (fun _ h => h) fun a h => .inl ?_) ⟨⟨dx, .ref cp, ?_, hv.mono c5.tups⟩, ⟨[], ?_, .nil⟩, ⟨cs, ?_, hc2.mono c5.tups⟩, n5⟩
  · rcases List.mem_cons.mp h with rfl | h
    · exact .tail _ (.tail _ (.head _))
    · rcases List.mem_cons.mp h with rfl | h
      · exact .tail _ (.head _)
      · rw [List.mem_singleton.mp h]; exact .head _
  · rw [← df_new]; exact upd_same
  · rw [upd_ne n1.symm, upd_ne n5, upd_ne n1.symm]; exact upd_same
  · rw [upd_ne n4.symm]; exact upd_same
theorem sc_Disk_look : FnScope ["self", "sector"] ["self", "sector"] (defScope s_Disk_look) := ⟨rfl, rfl, rfl, by decide +kernel, rfl, by decide +kernel, by decide +kernel⟩
theorem ok_dlook (O : Ok P K mg D) : FnOk P w K mg base CX0 1 D.fDisk_look D.dDisk_look ["self", "sector"] (spLook D.cDisk) := by
  refine O.FDisk_look.ok sc_Disk_look (fun vs H Q E h => ?_) (fun cdv A outer s H vs Q E hr h => ?_)
  · obtain ⟨dk, pe, vi, dur, vis, pend, s, ws, rfl, _⟩ := h
    rfl
  obtain ⟨dk, pe, vi, dur, vis, pend, sec, ws, rfl, ⟨⟨dx, du, e1, e2⟩, ⟨xs, e3, e4⟩, ⟨ys, e5, e6⟩, ne⟩, h0, hg, q⟩ := h
  have nd := sc_Disk_look.nd
  have hu := hu_of hr
  have bk : ∀ own scope, blkC ["self", "sector"] (defScope s_Disk_look) scope own = true → BlkOk ["self", "sector"] (defScope s_Disk_look) scope own := fun own scope h => blkOk_by h
  refine ⟨_, (pss_one (ps_ret (pe_callTy (r := rLstOf K) call_lstK (by rfl) O.zlist PyProof.Rows.boot_list (pa_cons (pe_ix (r := rIxL K) ix_list (pe_fldK (K := K) (pv 0) rfl) (pv 1) (fun _ _ => rfl)) pa_nil)))), ?_⟩
  have hg' : (vis.map wd)[sec.toNat]? = some (wd ws) := by rw [List.getElem?_map, hg]; rfl
  obtain ⟨x, hx, fx⟩ := e6.get hg'
  obtain ⟨tp, rfl, ht⟩ := fx.ofWd
  refine ⟨_, rfl, dk, D.cDisk, dx, _, _, rfl, e1, O.clDisk, O.nDisk__visible, df_visible _ _ _, _, rfl, vi, _, _, _, rfl, rfl, SqL.of e5, at_of (j := sec.toNat) (by omega) hx, ?_⟩
  exact ⟨tp, _, rfl, .inr (SqT.of ht), fun l nl => q _ l nl rfl⟩
theorem sc_Disk_write : FnScope ["self", "sector", "words", "kept"] ["self", "sector", "words"] (defScope s_Disk_write) := ⟨rfl, rfl, rfl, by decide +kernel, rfl, by decide +kernel, by decide +kernel⟩
theorem ok_dwrite (O : Ok P K mg D) : FnOk P w K mg base CX0 1 D.fDisk_write D.dDisk_write ["self", "sector", "words"] (spWrite D.cDisk) := by
  refine O.FDisk_write.ok sc_Disk_write (fun vs H Q E h => ?_) (fun cdv A outer s H vs Q E hr h => ?_)
  · obtain ⟨dk, pe, vi, w, dur, vis, pend, s, ws, rfl, _⟩ := h
    rfl
  obtain ⟨dk, pe, vi, w, dur, vis, pend, sec, ws, rfl, X, hw, h0, hg, hp, q⟩ := h
  have nd := sc_Disk_write.nd
  have hu := hu_of hr
  have bk : ∀ own scope, blkC ["self", "sector", "words", "kept"] (defScope s_Disk_write) scope own = true → BlkOk ["self", "sector", "words", "kept"] (defScope s_Disk_write) scope own := fun own scope h => blkOk_by h
  refine ⟨_, (pss_cons (ps_set (i := 3) nd rfl (Or.inl rfl) (pe_callTy (r := rTupOf K) call_tupK (by rfl) O.ztuple PyProof.Rows.boot_tuple (pa_cons (pv 2) pa_nil)))
    (pss_cons (ps_expr (pe_bm PySem.F.plainAttrs_list PySem.F.slot_list_append PySem.F.type_list_append mt_append (pe_fldK (K := K) (pv 0) rfl) (pa_cons (pe_tup (pa_cons (pv 1) (pa_cons (pv 3) pa_nil))) pa_nil)))
    (pss_one (ps_asg (pv 3) (pg_sub (pe_fldK (K := K) (pv 0) rfl) (pv 1) set_list))))), ?_⟩
  have np := X.nep
  have nv := X.nev
  obtain ⟨⟨dx, du, e1, e2⟩, ⟨xs, e3, e4⟩, ⟨ys, e5, e6⟩, ne⟩ := X
  refine ⟨_, rfl, w, _, rfl, .inl ⟨SqL.of hw, fun t nt => ?_⟩⟩
  have d1 : dk ≠ t := ne_of_none e1 nt
  have d2 : pe ≠ t := ne_of_none e3 nt
  have d3 : vi ≠ t := ne_of_none e5 nt
  refine ⟨_, rfl, dk, D.cDisk, dx, _, _, rfl, ((upd_ne d1).trans (e1)), O.clDisk, O.nDisk__pending, df_pending _ _ _, .inl ⟨rfl, _, SqL.of ((upd_ne d2).trans (e3))⟩, ?_⟩
  refine ⟨_, rfl, _, rfl, (by show 2 ≤ sizeLine; decide), fun u nu => ?_⟩
  have t1 : t ≠ u := fun z => by rw [z, upd_same] at nu; cases nu
  have nu0 : H u = none := by rw [upd_ne t1.symm] at nu; exact nu
  have f1 : dk ≠ u := ne_of_none e1 nu0
  have f2 : pe ≠ u := ne_of_none e3 nu0
  have f3 : vi ≠ u := ne_of_none e5 nu0
  have lx := e4.len
  rw [List.length_map] at lx
  refine ⟨pe, _, _, rfl, rfl, ((upd_ne f2).trans ((upd_ne d2).trans (e3))), small5 (by omega), ?_⟩
  have ly := e6.len
  rw [List.length_map] at ly
  refine ⟨_, rfl, _, rfl, dk, D.cDisk, dx, _, _, rfl, ((upd_ne np).trans ((upd_ne f1).trans ((upd_ne d1).trans e1))), O.clDisk, O.nDisk__visible, df_visible du (.ref pe) (.ref vi), _, rfl, vi, ys, _, sec.toNat, rfl, rfl, ?_, ?_, ?_⟩
  · rw [upd_ne ne.symm, upd_ne f3, upd_ne d3]; exact e5
  · unfold ixN
    rw [if_pos h0, if_pos (by omega)]
  have c1 : Chg [dk, pe, vi] [dk, pe, vi] H (upd H t (.tup (ws.map V.int))) := Chg.mk0 nt _
  have c2 := c1.trans (Chg.mk0 nu (.tup [.int sec, .ref t]))
  have c3 := c2.trans (Chg.set (a := pe) ((upd_ne f2).trans ((upd_ne d2).trans (e3))) (.tail _ (.head _)) (fun _ z => by cases z) (.lst (xs ++ [.ref u])))
  have c4 := c3.trans (Chg.set (a := vi) ((upd_ne ne.symm).trans ((upd_ne f3).trans ((upd_ne d3).trans (e5)))) (.tail _ (.tail _ (.head _))) (fun _ z => by cases z) (.lst (ys.set sec.toNat (.ref t))))
  have ht : ∀ G : Hp, Tups (upd (upd H t (.tup (ws.map V.int))) u (.tup [.int sec, .ref t])) G → Ft G (wd ws) (.ref t) := fun G s => Ft.mkWd (s _ _ ((upd_ne t1).trans (upd_same)))
  have tl : Tups (upd (upd H t (.tup (ws.map V.int))) u (.tup [.int sec, .ref t])) (upd (upd (upd (upd H t (.tup (ws.map V.int))) u (.tup [.int sec, .ref t])) pe (.lst (xs ++ [.ref u]))) vi (.lst (ys.set sec.toNat (.ref t)))) :=
    (Chg.trans (fp := [dk, pe, vi]) (Chg.set (a := pe) ((upd_ne f2).trans ((upd_ne d2).trans (e3))) (.tail _ (.head _)) (fun _ z => by cases z) (.lst (xs ++ [.ref u]))) (Chg.set (a := vi) ((upd_ne ne.symm).trans ((upd_ne f3).trans ((upd_ne d3).trans (e5)))) (.tail _ (.tail _ (.head _))) (fun _ z => by cases z) (.lst (ys.set sec.toNat (.ref t))))).tups
  refine q _ c4 ⟨⟨dx, du, ?_, e2.mono c4.tups⟩, ⟨xs ++ [.ref u], ?_, ?_⟩, ⟨ys.set sec.toNat (.ref t), upd_same, ?_⟩, ne⟩
  · rw [upd_ne nv, upd_ne np, upd_ne f1, upd_ne d1]; exact e1
  · rw [upd_ne ne]; exact upd_same
  · rw [List.map_append]
    refine (e4.mono c4.tups).app (.cons (Ft.mkTup (xs := [.int sec, .ref t]) (tl _ _ upd_same) (.cons (Ft.mkInt _) (.cons (ht _ tl) .nil))) .nil)
  · rw [List.map_set]
    exact (e6.mono c4.tups).set _ (ht _ tl)
theorem sc_Disk_barrier : FnScope ["self"] ["self"] (defScope s_Disk_barrier) := ⟨rfl, rfl, rfl, by decide +kernel, rfl, by decide +kernel, by decide +kernel⟩
theorem ok_dbarrier (O : Ok P K mg D) : FnOk P w K mg base CX0 1 D.fDisk_barrier D.dDisk_barrier ["self"] (spBarrier D.cDisk) := by
  refine O.FDisk_barrier.ok sc_Disk_barrier (fun vs H Q E h => ?_) (fun cdv A outer s H vs Q E hr h => ?_)
  · obtain ⟨dk, pe, vi, dur, vis, pend, rfl, _⟩ := h
    rfl
  obtain ⟨dk, pe, vi, dur, vis, pend, rfl, X, q⟩ := h
  have nd := sc_Disk_barrier.nd
  have hu := hu_of hr
  have bk : ∀ own scope, blkC ["self"] (defScope s_Disk_barrier) scope own = true → BlkOk ["self"] (defScope s_Disk_barrier) scope own := fun own scope h => blkOk_by h
  refine ⟨_, (pss_cons (ps_fld (pv 0) (pe_callTy (r := rTupOf K) call_tupK (by rfl) O.ztuple PyProof.Rows.boot_tuple (pa_cons (pe_fldK (K := K) (pv 0) rfl) pa_nil)) rfl)
    (pss_one (ps_fld (pv 0) (pe_lst pa_nil) rfl))), ?_⟩
  have np := X.nep
  have nv := X.nev
  obtain ⟨⟨dx, du, e1, e2⟩, ⟨xs, e3, e4⟩, ⟨ys, e5, e6⟩, ne⟩ := X
  refine ⟨_, rfl, dk, D.cDisk, dx, _, _, rfl, e1, O.clDisk, O.nDisk__visible, df_visible _ _ _, vi, _, rfl, .inl ⟨SqL.of e5, fun t nt => ?_⟩⟩
  have d1 : dk ≠ t := ne_of_none e1 nt
  have d2 : pe ≠ t := ne_of_none e3 nt
  have d3 : vi ≠ t := ne_of_none e5 nt
  refine ⟨_, rfl, dk, D.cDisk, dx, _, rfl, ((upd_ne d1).trans (e1)), O.clDisk, O.nDisk__durable, (by show 3 < 1000; decide), ?_⟩
  rw [df_put1]
  refine ⟨Nat.zero_le _, fun p np' => ?_⟩
  have g1 : dk ≠ p := fun z => by rw [z, upd_same] at np'; cases np'
  have g2 : t ≠ p := fun z => by rw [z, upd_ne g1.symm, upd_same] at np'; cases np'
  have np0 : H p = none := by rw [upd_ne g1.symm, upd_ne g2.symm] at np'; exact np'
  have g3 : vi ≠ p := ne_of_none e5 np0
  refine ⟨_, rfl, dk, D.cDisk, dx, _, rfl, ((upd_ne g1).trans (upd_same)), O.clDisk, O.nDisk__pending, (by show 3 < 1000; decide), ?_⟩
  rw [df_put2]
  have c1 : Chg [dk, pe, vi] [dk, pe, vi] H (upd H t (.tup ys)) := Chg.mk0 nt _
  have c2 := c1.trans (Chg.set (a := dk) ((upd_ne d1).trans (e1)) (.head _) (fun _ z => by cases z) (.ins D.cDisk dx (df (.ref t) (.ref pe) (.ref vi))))
  have c3 := c2.trans (Chg.mk1 np' (.lst []))
  have c4 := c3.trans (Chg.set (a := dk) ((upd_ne g1).trans (upd_same)) (.tail _ (.head _)) (fun _ z => by cases z) (.ins D.cDisk dx (df (.ref t) (.ref p) (.ref vi))))
  have ht : (upd (upd (upd (upd H t (.tup ys)) dk (.ins D.cDisk dx (df (.ref t) (.ref pe) (.ref vi)))) p (.lst [])) dk (.ins D.cDisk dx (df (.ref t) (.ref p) (.ref vi)))) t = some (.tup ys) := by
    rw [upd_ne d1.symm, upd_ne g2, upd_ne d1.symm]; exact upd_same
  refine q _ p (c4.mono (fun _ h => h) fun a h => .inl ?_) ⟨⟨dx, .ref t, upd_same, Ft.mkTup ht (e6.mono c4.tups)⟩, ⟨[], ?_, .nil⟩, ⟨ys, ?_, e6.mono c4.tups⟩, g3.symm⟩
  · rcases List.mem_cons.mp h with rfl | h
    · exact .tail _ (.head _)
    · rcases List.mem_cons.mp h with rfl | h
      · exact .head _
      · rw [List.mem_singleton.mp h]; exact .tail _ (.tail _ (.tail _ (.head _)))
  · rw [upd_ne g1.symm]; exact upd_same
  · rw [upd_ne nv.symm, upd_ne g3, upd_ne nv.symm, upd_ne d3]; exact e5
theorem sc_Disk_snapshot : FnScope ["self"] ["self"] (defScope s_Disk_snapshot) := ⟨rfl, rfl, rfl, by decide +kernel, rfl, by decide +kernel, by decide +kernel⟩
theorem ok_dsnap (O : Ok P K mg D) : FnOk P w K mg base CX0 1 D.fDisk_snapshot D.dDisk_snapshot ["self"] (spSnap D.cDisk) := by
  refine O.FDisk_snapshot.ok sc_Disk_snapshot (fun vs H Q E h => ?_) (fun cdv A outer s H vs Q E hr h => ?_)
  · obtain ⟨dk, pe, vi, dur, vis, pend, rfl, _⟩ := h
    rfl
  obtain ⟨dk, pe, vi, dur, vis, pend, rfl, X, q⟩ := h
  have nd := sc_Disk_snapshot.nd
  have hu := hu_of hr
  have bk : ∀ own scope, blkC ["self"] (defScope s_Disk_snapshot) scope own = true → BlkOk ["self"] (defScope s_Disk_snapshot) scope own := fun own scope h => blkOk_by h
  refine ⟨_, (pss_one (ps_ret (pe_tup (pa_cons (pe_fldK (K := K) (pv 0) rfl) (pa_cons (pe_callTy (r := rTupOf K) call_tupK (by rfl) O.ztuple PyProof.Rows.boot_tuple (pa_cons (pe_fldK (K := K) (pv 0) rfl) pa_nil)) pa_nil))))), ?_⟩
  obtain ⟨⟨dx, du, e1, e2⟩, ⟨xs, e3, e4⟩, ⟨ys, e5, e6⟩, ne⟩ := X
  refine ⟨_, rfl, dk, D.cDisk, dx, _, _, rfl, e1, O.clDisk, O.nDisk__durable, df_durable _ _ _, _, rfl, dk, D.cDisk, dx, _, _, rfl, e1, O.clDisk, O.nDisk__pending, df_pending _ _ _, pe, _, rfl, .inl ⟨SqL.of e3, fun t nt => ?_⟩⟩
  refine ⟨(by show 2 ≤ sizeLine; decide), fun p np => ?_⟩
  have c1 : Chg [] [] H (upd H t (.tup xs)) := Chg.mk0 nt _
  have c2 := c1.trans (Chg.mk0 np (.tup [du, .ref t]))
  have tp : t ≠ p := fun z => by rw [z, upd_same] at np; cases np
  refine q _ _ c2 (Ft.mkTup upd_same (.cons (e2.mono c2.tups) (.cons (Ft.mkTup ?_ (e4.mono c2.tups)) .nil)))
  rw [upd_ne tp]; exact upd_same
end
end S4
namespace S4
open PySem PySem.Spec PyProof.Rows L2
/-! ### tuple * int, also times one -/
theorem tuple_mul1 (l : Addr) (items : Array Value) (n : Nat) (dd : Option Addr) (sl : Array (Option Value)) (u : Tok) :
    Meets (Builtin.«tuple.__mul__» ⟨[.ref l, .int 1 u], []⟩) (fun _ R s => s.heap.get? l = some { cls := .type "tuple", dict := dd, data := .seq items n, slots := sl } ∧
      R (.ok (.ret (Value.ref l))) s) :=
  .of_wp fun prog w A R s h => by
    obtain ⟨hp, g, d, tk, os⟩ := s
    obtain ⟨hl, h⟩ := h
    have f1 := AutoSeq1.idx_int
    have f2 : (items.isEmpty || (1 : Int) == 1) = true := by simp
    wp_walk using wpAny_loadPart' hl
    repeat (first
      | (refine wpAny_ite_true (by simp) ?_; wp_walk using wpAny_loadPart' hl)
      | (refine wpAny_ite_false (by simp) ?_; wp_walk using wpAny_loadPart' hl))
    exact ⟨_, rfl, h⟩
def rRepTs (K : PySem.W.Frag) : R2 := fun x y H Q => ∃ l k xs, x = .ref l ∧ y = .int k ∧ SqT K H l xs ∧ xs ≠ [] ∧ 1 ≤ k ∧ k ≤ 1000 ∧ xs.length ≤ 1000 ∧ (k = 1 → Q (.ref l) H) ∧ ∀ p, H p = none → Q (.ref p) (upd H p (.tup (List.replicate k.toNat xs).flatten))
section
variable {X : Cx}
theorem op_repTs : OpR X (binaryOp .Mult) (rRepTs X.K) := by
  intro pins s σ H x y v u Q I rx ry h
  obtain ⟨l, k, xs, rfl, rfl, hT, hne, h1, h2, hz, q1, q⟩ := h
  by_cases hk : k = 1
  · subst hk
    cases rx
    obtain ⟨t, rfl⟩ := ry
    obtain ⟨its, r, ⟨⟨cls, dd, data, sl⟩, ho, hc, n, hd⟩, hs⟩ := I.tuple hT
    simp only at hc hd
    subst hc hd
    refine wpAny_binaryOp_repeat_ref (T := "tuple") (U := "int") (by decide) ⟨_, ho, rfl⟩ (fun s' => typeIs_int s' 1 t) noFill_tuple_mul F.fills_int_mul F.slot_int_rmul repeat_tuple F.slot_int_index.lookup
      (call_meets F.slot_int_rmul (typeIs_int s 1 t) F.entry_int_rmul (F.args_int_rmul_2 _ _) (int_rmul_tuple 1 t l its.toArray n dd sl)
        ⟨ho, rfl, ⟨_, ho, rfl⟩, call_meets F.slot_tuple_mul ⟨_, ho, rfl⟩ F.entry_tuple_mul (F.args_tuple_mul_2 _ _) (tuple_mul1 l its.toArray n dd sl t) ⟨ho, ?_⟩⟩)
    exact ⟨.ref l, H, I, rfl, q1 rfl⟩
  · exact op_repT pins s σ H (.ref l) (.int k) v u Q I rx ry ⟨l, k, xs, rfl, rfl, hT, hne, by omega, h2, hz, q⟩
end
/-- (0,) * width -/
theorem rep_one (n : Nat) (x : V) : (List.replicate n [x]).flatten = List.replicate n x := by
  induction n with
  | zero => rfl
  | succ n ih => rw [List.replicate_succ, List.flatten_cons, ih]; rfl
end S4
namespace S4
open PySem L2
theorem chg_go {st c : Addr} {H H' : Hp} (S : StAt H st c) (g : Same (Off H st c) (Off H' st c)) (S' : StAt H' st c) : Chg [st, c] [st, c] H H' where
  keep := fun a o e n => (off_get (g a o (off_of e (fun z => n (by rw [z]; exact .head _)) fun z => n (by rw [z]; exact .tail _ (.head _))))).1
  tups := fun a xs e => by
    obtain ⟨⟨m, h1⟩, ⟨ns, _, h2⟩⟩ := S
    exact (off_get (g a _ (off_of e (ne_of e h1 (by intro z; cases z)) (ne_of e h2 (by intro z; cases z))))).1
  dom := fun a e => by
    cases z : H a with
    | none => rfl
    | some o =>
      obtain ⟨h1, h2⟩ := S'.free e
      have := (off_get (g a o (off_of z h1 h2))).1
      rw [e] at this
      cases this
  new := fun a h => .inl h
theorem Go.chg {st c : Addr} {H H' : Hp} (g : Go st c H H') (S : StAt H st c) : Chg [st, c] [st, c] H H' := chg_go S g.same g.st
theorem StAt.keep {st c : Addr} {H H' : Hp} {fp fp' : List Addr} (S : StAt H st c) (g : Chg fp fp' H H') (h1 : st ∉ fp) (h2 : c ∉ fp) : StAt H' st c := by
  obtain ⟨⟨m, e1⟩, ⟨ns, l, e2⟩⟩ := S
  exact ⟨⟨m, g.keep _ _ e1 h1⟩, ⟨ns, l, g.keep _ _ e2 h2⟩⟩
/-- a list made by a comprehension, its items data that stand -/
theorem lc_chg {α : Type} {fp : List Addr} {d : Addr} {H0 : Hp} {n : Nat} {J : It} {X : Nat → V → Prop} {Qd : Hp → Prop} {B : V → Hp → (Hp → Prop) → Prop} (R : Hp → α → V → Prop) (Iv : Nat → Hp → Prop) (Pz : Nat → α → Prop)
    (Rm : ∀ H H' x v, (∀ b o, H b = some o → b ∉ fp → b ≠ d → H' b = some o) → Tups H H' → R H x v → R H' x v)
    (nd : H0 d = none) (nf : d ∉ fp) (hn : n ≤ 100000) (hI : ∀ i H o, Iv i H → Chg fp fp H0 H → Iv i (upd H d o)) (h0 : Iv 0 H0)
    (hstop : ∀ H, Chg fp fp H0 H → Iv n H → J.stop n H) (hgo : ∀ i H, i < n → Chg fp fp H0 H → Iv i H → J.go i H) (hy : ∀ i H x H', i < n → Chg fp fp H0 H → Iv i H → J.yld i H x H' → H' = H ∧ X i x)
    (hs : ∀ i x H acc, i < n → X i x → Chg fp fp H0 H → Iv i H → H d = some (.lst acc) → ∀ Nx : Hp → Prop, (∀ y H4 (z : α), Chg fp fp H H4 → Iv (i + 1) H4 → R H4 z y → Pz i z → ∃ acc, H4 d = some (.lst acc) ∧ acc.length < sizeLine ∧ Nx (upd H4 d (.lst (acc ++ [y])))) → B x H Nx)
    (hd : ∀ H zs acc, Chg fp fp H0 H → Iv n H → H d = some (.lst acc) → Each R H zs acc → zs.length = n → (∀ i z, zs[i]? = some z → Pz i z) → Qd H) :
    ∃ W : Nat → Nat → Hp → Prop, (∃ m, W 0 m (upd H0 d (.lst []))) ∧ ∀ i m H, W i m H →
      (J.stop i H ∧ Qd H) ∨ (J.go i H ∧ ∃ Nx : Hp → Prop, (∀ H', Nx H' → ∃ m', m' < m ∧ W (i + 1) m' H') ∧ ∀ x H', J.yld i H x H' → B x H' Nx) := by
  let Pv : Nat → Hp → Prop := fun i H => ∃ acc zs, H d = some (.lst acc) ∧ Chg fp fp H0 H ∧ Iv i H ∧ Each R H zs acc ∧ zs.length = i ∧ ∀ j z, zs[j]? = some z → Pz j z
  refine ⟨fun i m H => m + i = n ∧ Pv i H, ⟨n, rfl, [], [], upd_same, Chg.mk0 nd _, hI 0 H0 _ h0 (Chg.refl _ _), trivial, rfl, fun j z hz => by cases hz⟩, ?_⟩
  rintro i m H ⟨em, acc, zs, hacc, g, iv, he, hl, hz⟩
  cases m with
  | zero =>
    have ei : i = n := by omega
    subst ei
    exact .inl ⟨hstop H g iv, hd H zs acc g iv hacc he hl hz⟩
  | succ m =>
    have hi : i < n := by omega
    refine .inr ⟨hgo i H hi g iv, Pv (i + 1), fun H' p => ⟨m, Nat.lt_succ_self _, by omega, p⟩, fun x H' y => ?_⟩
    obtain ⟨rfl, hx⟩ := hy i H x H' hi g iv y
    refine hs i x H' acc hi hx g iv hacc (Pv (i + 1)) fun y H4 z g4 iv4 r zz => ?_
    have h4 := g4.keep d _ hacc nf
    have hal := Each.len he
    have g5 : Chg fp fp H0 (upd H4 d (.lst (acc ++ [y]))) := by
      have g04 := g.trans g4
      refine ⟨fun b o e nb => ?_, fun b xs e => ?_, fun b e => ?_, fun _ h => .inl h⟩
      · rw [upd_ne (ne_of_none e nd)]; exact g04.keep b o e nb
      · rw [upd_ne (ne_of_none e nd)]; exact g04.tups b xs e
      · by_cases zb : b = d
        · rw [zb]; exact nd
        · rw [upd_ne zb] at e; exact g04.dom b e
    have tu : Tups H4 (upd H4 d (.lst (acc ++ [y]))) := fun b xs e => by
      rw [upd_ne fun zb => ?_]
      · exact e
      · rw [zb, h4] at e; cases e
    refine ⟨acc, h4, small5' hn (by omega), acc ++ [y], zs ++ [z], upd_same, g5, hI _ _ _ iv4 (g.trans g4), ?_, by rw [List.length_append, hl]; rfl, ?_⟩
    · refine Each.app (Each.mono (fun a v h => Rm _ _ _ _ (fun b o e nb nbd => by rw [upd_ne nbd]; exact g4.keep b o e nb) (fun b xs e => tu b xs (g4.tups b xs e)) h) he) ⟨Rm _ _ _ _ (fun b o e nb nbd => by rw [upd_ne nbd]; exact e) tu r, trivial⟩
    · intro j a ha
      by_cases hj : j < zs.length
      · rw [List.getElem?_append_left hj] at ha
        exact hz j a ha
      · rw [List.getElem?_append_right (by omega)] at ha
        have : j - zs.length = 0 := by
          cases q : j - zs.length with
          | zero => rfl
          | succ k => rw [q] at ha; cases ha
        rw [this] at ha
        cases ha
        have ej : j = i := by omega
        rw [ej]; exact zz
where small5' {n k : Nat} (h : n ≤ 100000) (h' : k < n) : k < sizeLine := small5 (by omega)
theorem ft_rm {fp : List Addr} {d : Addr} : ∀ (H H' : Hp) (x : PyData) (v : V), (∀ b o, H b = some o → b ∉ fp → b ≠ d → H' b = some o) → Tups H H' → Ft H x v → Ft H' x v := fun _ _ _ _ _ t h => h.mono t
theorem each_ft {H : Hp} : ∀ {zs : List PyData} {acc : List V}, Each Ft H zs acc → FtAll H zs acc
  | [], [], _ => .nil
  | _ :: _, _ :: _, ⟨h1, h2⟩ => .cons h1 (each_ft h2)
  | [], _ :: _, h => h.elim
  | _ :: _, [], h => h.elim
theorem ft_each {H : Hp} : ∀ {zs : List PyData} {acc : List V}, FtAll H zs acc → Each Ft H zs acc
  | [], [], _ => trivial
  | _ :: _, _ :: _, h => ⟨h.un.1, ft_each h.un.2⟩
  | [], _ :: _, h => h.no1.elim
  | _ :: _, [], h => h.no2.elim
/-- walks that stand: a range, a list, a tuple -/
theorem wk_range {fp : List Addr} {H0 : Hp} {n : Nat} {Iv : Nat → Hp → Prop} : (∀ H, Chg fp fp H0 H → Iv n H → (Itr 0 n).stop n H) ∧ (∀ i H, i < n → Chg fp fp H0 H → Iv i H → (Itr 0 n).go i H) ∧ (∀ i H x H', i < n → Chg fp fp H0 H → Iv i H → (Itr 0 n).yld i H x H' → H' = H ∧ x = V.int (0 + (i : Int))) :=
  ⟨fun H g _ => Nat.le_refl n, fun i H hi g _ => hi, fun i H x H' _ g _ y => y⟩
theorem wk_list {K : PySem.W.Frag} {fp : List Addr} {H0 : Hp} {a : Addr} {xs : List V} {Iv : Nat → Hp → Prop} (ha : ∀ i H, Chg fp fp H0 H → Iv i H → SqL K H a xs) :
    (∀ H, Chg fp fp H0 H → Iv xs.length H → (Itl K a).stop xs.length H) ∧ (∀ i H, i < xs.length → Chg fp fp H0 H → Iv i H → (Itl K a).go i H) ∧ (∀ i H x H', i < xs.length → Chg fp fp H0 H → Iv i H → (Itl K a).yld i H x H' → H' = H ∧ xs[i]? = some x) :=
  ⟨fun H g v => ⟨xs, ha _ H g v, Nat.le_refl _⟩, fun i H hi g v => ⟨xs, xs[i], ha _ H g v, List.getElem?_eq_getElem hi⟩, fun i H x H' _ g v y => ⟨y.1, y.2 xs (ha _ H g v)⟩⟩
theorem wk_tup {K : PySem.W.Frag} {fp : List Addr} {H0 : Hp} {a : Addr} {xs : List V} {Iv : Nat → Hp → Prop} (ha : H0 a = some (.tup xs)) :
    (∀ H, Chg fp fp H0 H → Iv xs.length H → (Itt K a).stop xs.length H) ∧ (∀ i H, i < xs.length → Chg fp fp H0 H → Iv i H → (Itt K a).go i H) ∧ (∀ i H x H', i < xs.length → Chg fp fp H0 H → Iv i H → (Itt K a).yld i H x H' → H' = H ∧ xs[i]? = some x) :=
  ⟨fun H g v => ⟨xs, SqT.of (g.tups _ _ ha), Nat.le_refl _⟩, fun i H hi g v => ⟨xs, xs[i], SqT.of (g.tups _ _ ha), List.getElem?_eq_getElem hi⟩, fun i H x H' _ g v y => ⟨y.1, y.2 xs (SqT.of (g.tups _ _ ha))⟩⟩
end S4
namespace S4
open PySem L2
def spBlank : Sp := fun vs H Q _ => ∃ (s n : Int), vs = [.int s, .int n] ∧ 0 ≤ s ∧ s ≤ 1000 ∧ 1 ≤ n ∧ n ≤ 1000 ∧ ∀ H' v, Chg [] [] H H' → Ft H' (ct (List.replicate s.toNat (List.replicate n.toNat 0))) v → Q v H'
def spWords : Sp := fun vs H Q _ => ∃ (st c : Addr) (n : Int), vs = [.ref st, .int n] ∧ StAt H st c ∧ 0 ≤ n ∧ n ≤ 1000 ∧
  ∀ (ws : List Int) H' l, H l = none → H' l = some (.lst (ws.map V.int)) → Chg [st, c] [st, c] H H' → StAt H' st c → ws.length = n.toNat → Q (.ref l) H'
theorem each_rep {H : Hp} {d : PyData} : ∀ {zs : List PyData} {n : Nat}, zs.length = n → (∀ (i : Nat) (z : PyData), zs[i]? = some z → z = d) → zs = List.replicate n d
  | [], 0, _, _ => rfl
  | a :: r, n + 1, h, k => by
    rw [k 0 a rfl, each_rep (H := H) (n := n) (by simpa using h) fun i z e => k (i + 1) z e]; rfl
theorem ct_rep (n : Nat) (ws : List Int) : PyData.tuple (List.replicate n (wd ws)) = ct (List.replicate n ws) := by
  unfold ct; rw [List.map_replicate]
/-- the reading of [(0,) * width for .. in range(sectors)] -/
theorem lc_zero {K : PySem.W.Frag} {H : Hp} {s n : Int} {Qd : Hp → Prop} {B : V → Hp → (Hp → Prop) → Prop} (h0 : 0 ≤ s) (h1 : s ≤ 1000) (h2 : 1 ≤ n) (h3 : n ≤ 1000) (d : Addr) (nd : H d = none)
    (hB : ∀ (i : Nat) (x : V) (H1 : Hp) (Nx : Hp → Prop), H1 d ≠ none → (∀ p, H1 p = none → ((n = 1 → ∃ acc, (upd H1 p (.tup [.int 0])) d = some (.lst acc) ∧ acc.length < sizeLine ∧ Nx (upd (upd H1 p (.tup [.int 0])) d (.lst (acc ++ [.ref p])))) ∧
      ∀ q, upd H1 p (.tup [.int 0]) q = none → ∃ acc, (upd (upd H1 p (.tup [.int 0])) q (.tup (List.replicate n.toNat [V.int 0]).flatten)) d = some (.lst acc) ∧ acc.length < sizeLine ∧ Nx (upd (upd (upd H1 p (.tup [.int 0])) q (.tup (List.replicate n.toNat [V.int 0]).flatten)) d (.lst (acc ++ [.ref q]))))) → B x H1 Nx)
    (hd : ∀ H' acc, Chg [] [] H H' → H' d = some (.lst acc) → FtAll H' (List.replicate s.toNat (wd (List.replicate n.toNat 0))) acc → Qd H') :
    ∃ W : Nat → Nat → Hp → Prop, (∃ m, W 0 m (upd H d (.lst []))) ∧ ∀ i m H', W i m H' →
      ((Itr 0 s.toNat).stop i H' ∧ Qd H') ∨ ((Itr 0 s.toNat).go i H' ∧ ∃ Nx : Hp → Prop, (∀ H', Nx H' → ∃ m', m' < m ∧ W (i + 1) m' H') ∧ ∀ x H1, (Itr 0 s.toNat).yld i H' x H1 → B x H1 Nx) := by
  obtain ⟨j1, j2, j3⟩ := wk_range (fp := []) (H0 := H) (n := s.toNat) (Iv := fun _ _ => True)
  refine lc_chg Ft (fun _ _ => True) (fun _ z => z = wd (List.replicate n.toNat 0)) ft_rm nd (by intro h; cases h) (by omega) (fun _ _ _ _ _ => trivial) trivial j1 j2 j3 ?_ ?_
  · intro i x H1 acc hi hx g _ hacc Nx k
    refine hB i x H1 Nx (by rw [hacc]; exact fun z => by cases z) fun p np => ⟨fun e => ?_, fun q nq => ?_⟩
    · refine k (.ref p) _ _ (Chg.mk0 np _) trivial ?_ rfl
      rw [e]
      exact Ft.mkWd (ws := [0]) upd_same
    · refine k (.ref q) _ _ ((Chg.mk0 np _).trans (Chg.mk0 nq _)) trivial ?_ rfl
      refine Ft.mkWd ?_
      rw [rep_one, List.map_replicate]
      exact upd_same
  · intro H' zs acc g _ hacc he hl hz
    refine hd H' acc g hacc ?_
    have := each_rep (H := H') (d := wd (List.replicate n.toNat 0)) hl hz
    rw [← this]
    exact each_ft he
section
variable {P : Program} {w : World} {K : PySem.W.Frag} {mg : Str → Option Value} {base : Heap} {D : Defs}
theorem sc_blank : FnScope ["sectors", "width", "_"] ["sectors", "width"] (defScope s_blank) := ⟨rfl, rfl, rfl, by decide +kernel, rfl, by decide +kernel, by decide +kernel⟩
theorem ok_blank (O : Ok P K mg D) : FnOk P w K mg base CX0 1 D.fblank D.dblank ["sectors", "width"] spBlank := by
  refine O.Fblank.ok sc_blank (fun vs H Q E h => ?_) (fun cdv A outer s H vs Q E hr h => ?_)
  · obtain ⟨s, n, rfl, _⟩ := h
    rfl
  obtain ⟨sec, n, rfl, h0, h1, h2, h3, q⟩ := h
  have nd := sc_blank.nd
  have hu := hu_of hr
  have bk : ∀ own scope, blkC ["sectors", "width", "_"] (defScope s_blank) scope own = true → BlkOk ["sectors", "width", "_"] (defScope s_blank) scope own := fun own scope h => blkOk_by h
  refine ⟨_, (pss_one (ps_ret (pe_callTy (r := rTupOf K) call_tupK (by rfl) O.ztuple PyProof.Rows.boot_tuple (pa_cons (pe_lc (own := [("_", 2)]) (g := gName 2) (by rfl) nd (pi_range1 (by rfl) O.zrange (pa_cons (pv 0) pa_nil)) (bk [("_", 2)] _ (by decide +kernel)) (fun _ _ _ _ _ => (pg_name (i := 2) nd rfl (Or.inl rfl))) (fun _ _ _ _ _ => pts_nil) (fun _ _ _ _ _ => (pe_op (r := rRepTs K) op_repTs (pe_tup (pa_cons pe_int pa_nil)) (pv 1)))) pa_nil)))), ?_⟩
  refine ⟨_, rfl, sec, rfl, by omega, by omega, fun d nd1 => ?_⟩
  refine lc_zero (K := K) h0 h1 h2 h3 d nd1 ?_ ?_
  · intro i x H1 Nx hd k
    refine ⟨rfl, yes (iteT ?_)⟩
    refine ⟨(by show 1 ≤ sizeLine; decide), fun p np => ⟨_, rfl, p, n, _, rfl, rfl, SqT.of upd_same, (by intro z; cases z), h2, h3, (by show 1 ≤ 1000; decide), fun e => ?_, fun r nr => ?_⟩⟩
    · exact (k p np).1 e
    · exact (k p np).2 r nr
  · intro H' acc g hacc hf
    refine ⟨d, acc, rfl, .inl ⟨SqL.of hacc, fun t nt => ?_⟩⟩
    refine q _ _ (g.trans (Chg.mk0 nt _)) ?_
    rw [← ct_rep]
    exact Ft.mkTup upd_same (hf.mono (Chg.mk0 (fp := []) nt _).tups)
theorem sc__law_words : FnScope ["state", "width", "k"] ["state", "width"] (defScope s__law_words) := ⟨rfl, rfl, rfl, by decide +kernel, rfl, by decide +kernel, by decide +kernel⟩
theorem ok_words (O : Ok P K mg D) : FnOk P w K mg base CX0 2 D.f_law_words D.d_law_words ["state", "width"] spWords := by
  have G__law_draw : FnOk P w K mg base CX0 1 D.f_law_draw D.d_law_draw ["state", "many"] spDraw := ok_draw O
  refine O.F_law_words.ok sc__law_words (fun vs H Q E h => ?_) (fun cdv A outer s H vs Q E hr h => ?_)
  · obtain ⟨st, c, n, rfl, _⟩ := h
    rfl
  obtain ⟨st, c, n, rfl, S, h0, h1, q⟩ := h
  have nd := sc__law_words.nd
  have hu := hu_of hr
  have bk : ∀ own scope, blkC ["state", "width", "k"] (defScope s__law_words) scope own = true → BlkOk ["state", "width", "k"] (defScope s__law_words) scope own := fun own scope h => blkOk_by h
  refine ⟨_, (pss_one (ps_ret (pe_lc (own := [("k", 2)]) (g := gName 2) (by rfl) nd (pi_range1 (by rfl) O.zrange (pa_cons (pv 1) pa_nil)) (bk [("k", 2)] _ (by decide +kernel)) (fun _ _ _ _ _ => (pg_name (i := 2) nd rfl (Or.inl rfl))) (fun _ _ _ _ _ => pts_nil) (fun _ _ _ _ _ => (pe_call G__law_draw (hr.mono (by omega)) rfl O.m_law_draw O.F_law_draw.kp O.b_law_draw .nil pass0 (pa_cons (pv 0) (pa_cons pe_int pa_nil))))))), ?_⟩
  refine ⟨_, rfl, n, rfl, by omega, by omega, fun d nd1 => ?_⟩
  obtain ⟨f1, f2⟩ := S.free nd1
  obtain ⟨j1, j2, j3⟩ := wk_range (fp := [st, c]) (H0 := H) (n := n.toNat) (Iv := fun _ H => StAt H st c)
  refine lc_chg (fun _ z v => v = V.int z) (fun _ H => StAt H st c) (fun _ _ => True) (fun _ _ _ _ _ _ h => h) nd1 (no2 f1 f2) (by omega) (fun _ _ _ S _ => stAt_upd S f1 f2) S j1 j2 j3 ?_ ?_
  · intro i x H1 acc hi hx g S1 hacc Nx k
    refine ⟨rfl, yes (iteT ?_)⟩
    refine ⟨_, rfl, st, c, _, rfl, S1, (by decide), (by decide), fun r H2 r0 r1 g2 => ?_⟩
    exact k _ _ r (g2.chg S1) g2.st rfl trivial
  · intro H' zs acc g S' hacc he hl hz
    have e : acc = zs.map V.int := by
      clear hacc hl hz
      induction zs generalizing acc with
      | nil => cases acc with
        | nil => rfl
        | cons _ _ => exact he.elim
      | cons z zs ih => cases acc with
        | nil => exact he.elim
        | cons x acc => rw [he.1, ih acc he.2]; rfl
    rw [e] at hacc
    exact q zs H' d nd1 hacc g S' hl
end
end S4
namespace S4
open PySem L2
theorem each_wd {H : Hp} {α : Type} {f : α → PyData} : ∀ {zs : List α} {acc : List V}, Each (fun H z v => Ft H (f z) v) H zs acc → FtAll H (zs.map f) acc
  | [], [], _ => .nil
  | _ :: _, _ :: _, ⟨h1, h2⟩ => .cons h1 (each_wd h2)
  | [], _ :: _, h => h.elim
  | _ :: _, [], h => h.elim
/-- what the law has at a turn's start -/
structure Wd (C : Addr) (H : Hp) (st c dk pe vi se pn : Addr) (du2 : V) (dur : List (List Int)) (pend : List (Int × List Int)) (vis : List (List Int)) (dur2 : List (List Int)) (pend2 : List (Int × List Int)) (vis2 : List (List Int)) : Prop where
  S : StAt H st c
  D : DkAt C H dk pe vi dur pend vis
  fse : ∃ xs, H se = some (.lst xs) ∧ FtAll H (vis2.map wd) xs
  fpn : ∃ xs, H pn = some (.lst xs) ∧ FtAll H (pend2.map pw) xs
  fdu : Ft H (ct dur2) du2
  nd : [st, c, dk, pe, vi, se, pn].Nodup
section
variable {C st c dk pe vi se pn pe' : Addr} {H H' : Hp} {du2 : V} {dur vis dur2 vis2 dur' vis' : List (List Int)} {pend pend2 pend' : List (Int × List Int)} {fp fp' : List Addr}
theorem Wd.some (W : Wd C H st c dk pe vi se pn du2 dur pend vis dur2 pend2 vis2) : ∀ a ∈ [st, c, dk, pe, vi, se, pn], H a ≠ none := by
  obtain ⟨⟨⟨m, e1⟩, ⟨ns, _, e2⟩⟩, ⟨⟨dx, du, e3, _⟩, ⟨_, e4, _⟩, ⟨_, e5, _⟩, _⟩, ⟨_, e6, _⟩, ⟨_, e7, _⟩, _, _⟩ := W
  intro a h
  simp only [List.mem_cons, List.not_mem_nil, or_false] at h
  rcases h with rfl | rfl | rfl | rfl | rfl | rfl | rfl <;> intro z <;> simp_all
theorem Wd.free (W : Wd C H st c dk pe vi se pn du2 dur pend vis dur2 pend2 vis2) {p : Addr} (n : H p = none) : p ≠ st ∧ p ≠ c ∧ p ≠ dk ∧ p ≠ pe ∧ p ≠ vi ∧ p ≠ se ∧ p ≠ pn := by
  have k := W.some
  refine ⟨?_, ?_, ?_, ?_, ?_, ?_, ?_⟩ <;> rintro rfl <;> exact k _ (by simp) n
/-- the draws -/
theorem Wd.draw (W : Wd C H st c dk pe vi se pn du2 dur pend vis dur2 pend2 vis2) (g : Chg [st, c] fp' H H') (S : StAt H' st c) : Wd C H' st c dk pe vi se pn du2 dur pend vis dur2 pend2 vis2 := by
  have nd := W.nd
  simp only [List.nodup_cons, List.mem_cons, List.not_mem_nil, or_false, not_or, not_false_eq_true, List.nodup_nil, and_true] at nd
  obtain ⟨⟨a1, a2, a3, a4, a5, a6⟩, ⟨b2, b3, b4, b5, b6⟩, _⟩ := nd
  obtain ⟨xs, x1, x2⟩ := W.fse
  obtain ⟨ys, y1, y2⟩ := W.fpn
  exact ⟨S, W.D.keep g (no2 (Ne.symm a2) (Ne.symm b2)) (no2 (Ne.symm a3) (Ne.symm b3)) (no2 (Ne.symm a4) (Ne.symm b4)),
    ⟨xs, g.keep _ _ x1 (no2 (Ne.symm a5) (Ne.symm b5)), x2.mono g.tups⟩, ⟨ys, g.keep _ _ y1 (no2 (Ne.symm a6) (Ne.symm b6)), y2.mono g.tups⟩, W.fdu.mono g.tups, W.nd⟩
/-- the disk -/
theorem Wd.disk (W : Wd C H st c dk pe vi se pn du2 dur pend vis dur2 pend2 vis2) (g : Chg [dk, pe, vi] [dk, pe', vi] H H') (D : DkAt C H' dk pe' vi dur' pend' vis') : Wd C H' st c dk pe' vi se pn du2 dur' pend' vis' dur2 pend2 vis2 := by
  have fr := fun n => W.free (p := pe') n
  have nd := W.nd
  simp only [List.nodup_cons, List.mem_cons, List.not_mem_nil, or_false, not_or, not_false_eq_true, List.nodup_nil, and_true] at nd
  obtain ⟨⟨a1, a2, a3, a4, a5, a6⟩, ⟨b2, b3, b4, b5, b6⟩, ⟨c3, c4, c5, c6⟩, ⟨d4, d5, d6⟩, ⟨e5, e6⟩, f6⟩ := nd
  obtain ⟨xs, x1, x2⟩ := W.fse
  obtain ⟨ys, y1, y2⟩ := W.fpn
  refine ⟨W.S.keep g (no3 a2 a3 a4) (no3 b2 b3 b4), D, ⟨xs, g.keep _ _ x1 (no3 (Ne.symm c5) (Ne.symm d5) (Ne.symm e5)), x2.mono g.tups⟩, ⟨ys, g.keep _ _ y1 (no3 (Ne.symm c6) (Ne.symm d6) (Ne.symm e6)), y2.mono g.tups⟩, W.fdu.mono g.tups, ?_⟩
  have h1 := D.nep
  have h2 := D.nev
  have h3 := D.ne
  have h4 : pe' ≠ st ∧ pe' ≠ c ∧ pe' ≠ se ∧ pe' ≠ pn := by
    rcases g.new pe' (.tail _ (.head _)) with h | h
    · have : pe' = pe := by
        rcases List.mem_cons.mp h with h | h
        · exact absurd h.symm h1
        · rcases List.mem_cons.mp h with h | h
          · exact h
          · exact absurd (List.mem_singleton.mp h) h3
      subst this
      exact ⟨Ne.symm a3, Ne.symm b3, d5, d6⟩
    · obtain ⟨k1, k2, _, _, _, k6, k7⟩ := fr h
      exact ⟨k1, k2, k6, k7⟩
  obtain ⟨h4, h5, h6, h7⟩ := h4
  simp only [List.nodup_cons, List.mem_cons, List.not_mem_nil, or_false, not_or, not_false_eq_true, List.nodup_nil, and_true]
  exact ⟨⟨a1, a2, Ne.symm h4, a4, a5, a6⟩, ⟨b2, Ne.symm h5, b4, b5, b6⟩, ⟨h1, c4, c5, c6⟩, ⟨h3, h6, h7⟩, ⟨e5, e6⟩, f6⟩
/-- only new things, or things beside -/
theorem Wd.aside (W : Wd C H st c dk pe vi se pn du2 dur pend vis dur2 pend2 vis2) (g : Chg fp fp' H H') (n : ∀ a ∈ fp, a ∉ [st, c, dk, pe, vi, se, pn]) : Wd C H' st c dk pe vi se pn du2 dur pend vis dur2 pend2 vis2 := by
  have k : ∀ a, a ∈ [st, c, dk, pe, vi, se, pn] → a ∉ fp := fun a h z => n a z h
  obtain ⟨xs, x1, x2⟩ := W.fse
  obtain ⟨ys, y1, y2⟩ := W.fpn
  exact ⟨W.S.keep g (k _ (by simp)) (k _ (by simp)), W.D.keep g (k _ (by simp)) (k _ (by simp)) (k _ (by simp)), ⟨xs, g.keep _ _ x1 (k _ (by simp)), x2.mono g.tups⟩, ⟨ys, g.keep _ _ y1 (k _ (by simp)), y2.mono g.tups⟩, W.fdu.mono g.tups, W.nd⟩
theorem Wd.setSe (W : Wd C H st c dk pe vi se pn du2 dur pend vis dur2 pend2 vis2) {xs : List V} {vis3 : List (List Int)} (h : FtAll H (vis3.map wd) xs) : Wd C (upd H se (.lst xs)) st c dk pe vi se pn du2 dur pend vis dur2 pend2 vis3 := by
  have nd := W.nd
  simp only [List.nodup_cons, List.mem_cons, List.not_mem_nil, or_false, not_or, not_false_eq_true, List.nodup_nil, and_true] at nd
  obtain ⟨⟨a1, a2, a3, a4, a5, a6⟩, ⟨b2, b3, b4, b5, b6⟩, ⟨c3, c4, c5, c6⟩, ⟨d4, d5, d6⟩, ⟨e5, e6⟩, f6⟩ := nd
  obtain ⟨xs0, x1, x2⟩ := W.fse
  obtain ⟨ys, y1, y2⟩ := W.fpn
  have g : Chg [se] [se] H (upd H se (.lst xs)) := Chg.set x1 (.head _) (fun _ z => by cases z) _
  exact ⟨W.S.keep g (no1 a5) (no1 b5), W.D.keep g (no1 c5) (no1 d5) (no1 e5), ⟨xs, upd_same, h.mono g.tups⟩, ⟨ys, g.keep _ _ y1 (no1 (Ne.symm f6)), y2.mono g.tups⟩, W.fdu.mono g.tups, W.nd⟩
theorem Wd.setPn (W : Wd C H st c dk pe vi se pn du2 dur pend vis dur2 pend2 vis2) {xs : List V} {pend3 : List (Int × List Int)} (h : FtAll H (pend3.map pw) xs) : Wd C (upd H pn (.lst xs)) st c dk pe vi se pn du2 dur pend vis dur2 pend3 vis2 := by
  have nd := W.nd
  simp only [List.nodup_cons, List.mem_cons, List.not_mem_nil, or_false, not_or, not_false_eq_true, List.nodup_nil, and_true] at nd
  obtain ⟨⟨a1, a2, a3, a4, a5, a6⟩, ⟨b2, b3, b4, b5, b6⟩, ⟨c3, c4, c5, c6⟩, ⟨d4, d5, d6⟩, ⟨e5, e6⟩, f6⟩ := nd
  obtain ⟨xs0, x1, x2⟩ := W.fse
  obtain ⟨ys, y1, y2⟩ := W.fpn
  have g : Chg [pn] [pn] H (upd H pn (.lst xs)) := Chg.set y1 (.head _) (fun _ z => by cases z) _
  exact ⟨W.S.keep g (no1 a6) (no1 b6), W.D.keep g (no1 c6) (no1 d6) (no1 e6), ⟨xs0, g.keep _ _ x1 (no1 f6), x2.mono g.tups⟩, ⟨xs, upd_same, h.mono g.tups⟩, W.fdu.mono g.tups, W.nd⟩
/-- the law throws its list of writes away -/
theorem Wd.newPn (W : Wd C H st c dk pe vi se pn du2 dur pend vis dur2 pend2 vis2) {p : Addr} (n : H p = none) : Wd C (upd H p (.lst [])) st c dk pe vi se p du2 dur pend vis dur2 [] vis2 := by
  have g : Chg [] [] H (upd H p (.lst [])) := Chg.mk0 n _
  have W1 := W.aside g (fun a h => by cases h)
  obtain ⟨k1, k2, k3, k4, k5, k6, k7⟩ := W.free n
  have nd := W.nd
  refine ⟨W1.S, W1.D, W1.fse, ⟨[], upd_same, .nil⟩, W1.fdu, ?_⟩
  simp only [List.nodup_cons, List.mem_cons, List.not_mem_nil, or_false, not_or, not_false_eq_true, List.nodup_nil, and_true] at nd ⊢
  obtain ⟨⟨a1, a2, a3, a4, a5, a6⟩, ⟨b2, b3, b4, b5, b6⟩, ⟨c3, c4, c5, c6⟩, ⟨d4, d5, d6⟩, ⟨e5, e6⟩, f6⟩ := nd
  exact ⟨⟨a1, a2, a3, a4, a5, Ne.symm k1⟩, ⟨b2, b3, b4, b5, Ne.symm k2⟩, ⟨c3, c4, c5, Ne.symm k3⟩, ⟨d4, d5, Ne.symm k4⟩, ⟨e5, Ne.symm k5⟩, Ne.symm k6⟩
theorem Wd.setDu (W : Wd C H st c dk pe vi se pn du2 dur pend vis dur2 pend2 vis2) {v : V} {dur3 : List (List Int)} (h : Ft H (ct dur3) v) : Wd C H st c dk pe vi se pn v dur pend vis dur3 pend2 vis2 := ⟨W.S, W.D, W.fse, W.fpn, h, W.nd⟩
end
def spLaw (K : PySem.W.Frag) : Sp := fun vs H Q _ => ∃ (a : Addr) (ns : List Int), vs = [.ref a] ∧ SqL K H a (ns.map V.int) ∧ ns.length ≤ 63 ∧ ∀ H', Q (.bl true) H'
end S4
namespace S4
open PySem L2
section
variable {P : Program} {w : World} {K : PySem.W.Frag} {mg : Str → Option Value} {base : Heap} {D : Defs}
theorem sc_law : FnScope ["script", "state", "sectors", "width", "k", "seen", "disk", "durable", "pending", "sector", "words", "told"] ["script"] (defScope s_law) := ⟨rfl, rfl, rfl, by decide +kernel, rfl, by decide +kernel, by decide +kernel⟩
theorem ok_law (O : Ok P K mg D) : FnOk P w K mg base CX0 4 D.flaw D.dlaw ["script"] (spLaw K) := by
  have G__law_state : FnOk P w K mg base CX0 1 D.f_law_state D.d_law_state ["script"] (spState K) := ok_state O
  have G__law_draw : FnOk P w K mg base CX0 1 D.f_law_draw D.d_law_draw ["state", "many"] spDraw := ok_draw O
  have G__law_words : FnOk P w K mg base CX0 2 D.f_law_words D.d_law_words ["state", "width"] spWords := ok_words O
  have G_blank : FnOk P w K mg base CX0 1 D.fblank D.dblank ["sectors", "width"] spBlank := ok_blank O
  have G_Disk___init__ : FnOk P w K mg base CX0 1 D.fDisk___init__ D.dDisk___init__ ["self", "contents"] (spDInit D.cDisk) := ok_dinit O
  have G_Disk_look : FnOk P w K mg base CX0 1 D.fDisk_look D.dDisk_look ["self", "sector"] (spLook D.cDisk) := ok_dlook O
  have G_Disk_write : FnOk P w K mg base CX0 1 D.fDisk_write D.dDisk_write ["self", "sector", "words"] (spWrite D.cDisk) := ok_dwrite O
  have G_Disk_barrier : FnOk P w K mg base CX0 1 D.fDisk_barrier D.dDisk_barrier ["self"] (spBarrier D.cDisk) := ok_dbarrier O
  have G_Disk_snapshot : FnOk P w K mg base CX0 1 D.fDisk_snapshot D.dDisk_snapshot ["self"] (spSnap D.cDisk) := ok_dsnap O
  refine O.Flaw.ok sc_law (fun vs H Q E h => ?_) (fun cdv A outer s H vs Q E hr h => ?_)
  · obtain ⟨a, ns, rfl, _⟩ := h
    rfl
  obtain ⟨a, ns, rfl, hS, hlen, q⟩ := h
  have nd := sc_law.nd
  have hu := hu_of hr
  have bk : ∀ own scope, blkC ["script", "state", "sectors", "width", "k", "seen", "disk", "durable", "pending", "sector", "words", "told"] (defScope s_law) scope own = true → BlkOk ["script", "state", "sectors", "width", "k", "seen", "disk", "durable", "pending", "sector", "words", "told"] (defScope s_law) scope own := fun own scope h => blkOk_by h
  refine ⟨_, (pss_cons (ps_set (i := 1) nd rfl (Or.inr rfl) (pe_call G__law_state (hr.mono (by omega)) rfl O.m_law_state O.F_law_state.kp O.b_law_state .nil pass0 (pa_cons (pv 0) pa_nil)))
    (pss_cons (ps_set (i := 2) nd rfl (Or.inl rfl) (pe_op op_add pe_int (pe_call G__law_draw (hr.mono (by omega)) rfl O.m_law_draw O.F_law_draw.kp O.b_law_draw .nil pass0 (pa_cons (pv 1) (pa_cons pe_int pa_nil)))))
    (pss_cons (ps_set (i := 3) nd rfl (Or.inr rfl) (pe_op op_add pe_int (pe_call G__law_draw (hr.mono (by omega)) rfl O.m_law_draw O.F_law_draw.kp O.b_law_draw .nil pass0 (pa_cons (pv 1) (pa_cons pe_int pa_nil)))))
    (pss_cons (ps_if (pt_cmpR (r := rNeD K) (op_neD hr.units) (pe_call G_blank (hr.mono (by omega)) rfl O.mblank O.Fblank.kp O.bblank .nil pass0 (pa_cons (pv 2) (pa_cons (pv 3) pa_nil))) (pe_callTy (r := rTupOf K) call_tupK (by rfl) O.ztuple PyProof.Rows.boot_tuple (pa_cons (pe_lc (own := [("k", 4)]) (g := gName 4) (by rfl) nd (pi_range1 (by rfl) O.zrange (pa_cons (pv 2) pa_nil)) (bk [("k", 4)] _ (by decide +kernel)) (fun _ _ _ _ _ => (pg_name (i := 4) nd rfl (Or.inl rfl))) (fun _ _ _ _ _ => pts_nil) (fun _ _ _ _ _ => (pe_op (r := rRepTs K) op_repTs (pe_tup (pa_cons pe_int pa_nil)) (pv 3)))) pa_nil)) (nomark _)) (pss_one (ps_ret pe_bl)) pss_nil)
    (pss_cons (ps_setLc (i := 5) (own := [("k", 4)]) (g := gName 4) (by rfl) nd rfl rfl (sw_true rfl rfl rfl (by decide +kernel)) (pi_range1 (by rfl) O.zrange (pa_cons (pv 2) pa_nil)) (bk [("k", 4)] _ (by decide +kernel)) (fun _ _ _ _ _ => (pg_name (i := 4) nd rfl (Or.inl rfl))) (fun _ _ _ _ _ => pts_nil) (fun _ _ _ _ _ => (pe_callTy (r := rTupOf K) call_tupK (by rfl) O.ztuple PyProof.Rows.boot_tuple (pa_cons (pe_call G__law_words (hr.mono (by omega)) rfl O.m_law_words O.F_law_words.kp O.b_law_words .nil pass0 (pa_cons (pv 1) (pa_cons (pv 3) pa_nil))) pa_nil))))
    (pss_cons (ps_set (i := 6) nd rfl (Or.inl rfl) (pe_make O.mkDisk G_Disk___init__ (hr.mono (by omega)) rfl O.mDisk O.bDisk___init__ .nil pass0 (pa_cons (pe_callTy (r := rTupOf K) call_tupK (by rfl) O.ztuple PyProof.Rows.boot_tuple (pa_cons (pv 5) pa_nil)) pa_nil)))
    (pss_cons (ps_set (i := 7) nd rfl (Or.inl rfl) (pe_callTy (r := rTupOf K) call_tupK (by rfl) O.ztuple PyProof.Rows.boot_tuple (pa_cons (pv 5) pa_nil)))
    (pss_cons (ps_set (i := 8) nd rfl (Or.inl rfl) (pe_lst pa_nil))
    (pss_cons (ps_for PassesOwn.never rfl (pi_range1 (by rfl) O.zrange (pa_cons (pe_op op_add pe_int (pe_call G__law_draw (hr.mono (by omega)) rfl O.m_law_draw O.F_law_draw.kp O.b_law_draw .nil pass0 (pa_cons (pv 1) (pa_cons pe_int pa_nil)))) pa_nil)) (pg_name (i := 4) nd rfl (Or.inl rfl)) (C8.pss_cut (ps_if (pt_cmpR op_eq (pe_call G__law_draw (hr.mono (by omega)) rfl O.m_law_draw O.F_law_draw.kp O.b_law_draw .nil pass0 (pa_cons (pv 1) (pa_cons pe_int pa_nil))) pe_int (nomark _)) (pss_cons (ps_expr (pe_meth0 (pv 6) O.clDisk O.eDisk_barrier G_Disk_barrier (hr.mono (by omega)) O.bDisk_barrier .nil pass0))
    (pss_cons (ps_set (i := 7) nd rfl (Or.inl rfl) (pe_callTy (r := rTupOf K) call_tupK (by rfl) O.ztuple PyProof.Rows.boot_tuple (pa_cons (pv 5) pa_nil)))
    (pss_one (ps_set (i := 8) nd rfl (Or.inl rfl) (pe_lst pa_nil))))) (pss_cons (ps_set (i := 9) nd rfl (Or.inl rfl) (pe_call G__law_draw (hr.mono (by omega)) rfl O.m_law_draw O.F_law_draw.kp O.b_law_draw .nil pass0 (pa_cons (pv 1) (pa_cons (pv 2) pa_nil))))
    (pss_cons (ps_set (i := 10) nd rfl (Or.inl rfl) (pe_call G__law_words (hr.mono (by omega)) rfl O.m_law_words O.F_law_words.kp O.b_law_words .nil pass0 (pa_cons (pv 1) (pa_cons (pv 3) pa_nil))))
    (pss_cons (ps_expr (pe_meth (pv 6) O.clDisk O.eDisk_write G_Disk_write (hr.mono (by omega)) O.bDisk_write .nil pass0 (pa_cons (pv 9) (pa_cons (pv 10) pa_nil))))
    (pss_cons (ps_asg (pe_callTy (r := rTupOf K) call_tupK (by rfl) O.ztuple PyProof.Rows.boot_tuple (pa_cons (pv 10) pa_nil)) (pg_sub (pv 5) (pv 9) set_list))
    (pss_cons (ps_expr (pe_bm PySem.F.plainAttrs_list PySem.F.slot_list_append PySem.F.type_list_append mt_append (pv 8) (pa_cons (pe_tup (pa_cons (pv 9) (pa_cons (pe_callTy (r := rTupOf K) call_tupK (by rfl) O.ztuple PyProof.Rows.boot_tuple (pa_cons (pv 10) pa_nil)) pa_nil))) pa_nil)))
    (pss_one (ps_expr (pe_bm PySem.F.plainAttrs_list PySem.F.slot_list_append PySem.F.type_list_append mt_append (pv 10) (pa_cons pe_int pa_nil))))))))))
    (C8.pss_cut (ps_for PassesOwn.never rfl (pi_range1 (by rfl) O.zrange (pa_cons (pv 2) pa_nil)) (pg_name (i := 9) nd rfl (Or.inl rfl)) (pss_cons (ps_set (i := 11) nd rfl (Or.inl rfl) (pe_meth (pv 6) O.clDisk O.eDisk_look G_Disk_look (hr.mono (by omega)) O.bDisk_look .nil pass0 (pa_cons (pv 9) pa_nil)))
    (pss_cons (ps_if (PW.pt (pw_or (pt_not (pt_val (pe_callB (r := rIsi K) call_isi (by rfl) O.zisinstance PyProof.Rows.boot_isinstance (pa_cons (pv 11) (pa_cons (pe_bltn (v := .ty "list") (by rfl) O.zlist PyProof.Rows.boot_list rfl) pa_nil))))) (pw_or1 (pt_cmpR (r := rNeD K) (op_neD hr.units) (pv 11) (pe_callTy (r := rLstOf K) call_lstK (by rfl) O.zlist PyProof.Rows.boot_list (pa_cons (pe_ix (r := rIxL K) ix_list (pv 5) (pv 9) (fun _ _ => rfl)) pa_nil)) (nomark _))))) (pss_one (ps_ret pe_bl)) pss_nil)
    (pss_one (ps_expr (pe_bm PySem.F.plainAttrs_list PySem.F.slot_list_append PySem.F.type_list_append mt_append (pv 11) (pa_cons pe_int pa_nil)))))))
    (pss_one (ps_if (pt_cmpR (r := rNeD K) (op_neD hr.units) (pe_meth0 (pv 6) O.clDisk O.eDisk_snapshot G_Disk_snapshot (hr.mono (by omega)) O.bDisk_snapshot .nil pass0) (pe_tup (pa_cons (pv 7) (pa_cons (pe_callTy (r := rTupOf K) call_tupK (by rfl) O.ztuple PyProof.Rows.boot_tuple (pa_cons (pv 8) pa_nil)) pa_nil))) (nomark _)) (pss_one (ps_ret pe_bl)) pss_nil)))))
    (pss_one (ps_ret pe_bl))))))))))), ?_⟩
  refine ⟨_, rfl, a, ns, rfl, hS, hlen, fun st c H1 s1 nst nc S1 => ?_⟩
  refine ⟨_, rfl, st, c, 6, rfl, S1, by decide, by decide, fun r1 H2 a1 a2 g2 => ⟨_, _, rfl, rfl, ?_⟩⟩
  refine ⟨_, rfl, st, c, 4, rfl, g2.st, by decide, by decide, fun r2 H3 b1 b2 g3 => ⟨_, _, rfl, rfl, ?_⟩⟩
  have S3 := g3.st
  refine ⟨_, rfl, _, rfl, (1 + r1), (1 + r2), rfl, by omega, by omega, by omega, by omega, fun H4 vb g4 fb => ?_⟩
  refine ⟨_, rfl, (1 + r1), rfl, by omega, by omega, fun d nd1 => ?_⟩
  refine lc_zero (K := K) (s := (1 + r1)) (n := (1 + r2)) (by omega) (by omega) (by omega) (by omega) d nd1 ?_ ?_
  · intro i x H5 Nx hd k
    refine ⟨rfl, yes (iteT ?_)⟩
    refine ⟨(by show 1 ≤ sizeLine; decide), fun p np => ⟨_, rfl, p, (1 + r2), _, rfl, rfl, SqT.of upd_same, (by intro z; cases z), by omega, by omega, (by show 1 ≤ 1000; decide), fun e => ?_, fun r nr => ?_⟩⟩
    · exact (k p np).1 e
    · exact (k p np).2 r nr
  intro H5 acc g5 hacc hf
  refine ⟨d, acc, rfl, .inl ⟨SqL.of hacc, fun t nt => ?_⟩⟩
  have g6 : Chg [] [] H5 (upd H5 t (.tup acc)) := Chg.mk0 nt _
  have f6 : Ft (upd H5 t (.tup acc)) (ct (List.replicate (1 + r1).toNat (List.replicate (1 + r2).toNat 0))) (.ref t) := by
    rw [← ct_rep]; exact Ft.mkTup upd_same (hf.mono g6.tups)
  have fb6 := fb.mono (g5.trans g6).tups
  refine ⟨_, _, fb6.dp K, f6.dp K, (shp_ct _).ok (by decide), (shp_ct _).ok (by decide), ?_⟩
  rw [(shp_ct (List.replicate (1 + r1).toNat (List.replicate (1 + r2).toNat 0))).eq]
  refine ⟨_, rfl, iteF ?_⟩
  have S6 : StAt (upd H5 t (.tup acc)) st c := S3.keep (g4.trans (g5.trans g6)) (by intro h; cases h) (by intro h; cases h)
  generalize upd H5 t (.tup acc) = H6 at S6
  -- seen
  refine ⟨_, rfl, (1 + r1), rfl, by omega, by omega, fun se nse => ?_⟩
  obtain ⟨f1, f2⟩ := S6.free nse
  obtain ⟨j1, j2, j3⟩ := wk_range (fp := [st, c]) (H0 := H6) (n := (1 + r1).toNat) (Iv := fun _ H => StAt H st c)
  refine lc_chg (α := List Int) (fun H z v => Ft H (wd z) v) (fun _ H => StAt H st c) (fun _ z => z.length ≤ 1000) (fun _ _ _ _ _ t h => h.mono t) nse (no2 f1 f2) (by omega) (fun _ _ _ S _ => stAt_upd S f1 f2) S6 j1 j2 j3 ?_ ?_
  · intro i x H7 acc hi hx g7 S7 hacc Nx k
    refine ⟨rfl, yes (iteT ?_)⟩
    refine ⟨_, rfl, _, rfl, st, c, (1 + r2), rfl, S7, by omega, by omega, fun ws H8 l nl hl g8 S8 lw => ?_⟩
    refine ⟨l, _, rfl, .inl ⟨SqL.of hl, fun t nt => ?_⟩⟩
    have g9 : Chg [st, c] [st, c] H8 (upd H8 t (.tup (ws.map V.int))) := Chg.mk0 nt _
    obtain ⟨k1, k2⟩ := S8.free nt
    exact k (.ref t) _ ws (g8.trans g9) (stAt_upd S8 k1 k2) (Ft.mkWd upd_same) (by omega)
  intro H7 vis0 acc7 g7 S7 hacc7 he7 hl7 hz7
  have lw0 : ∀ ws ∈ vis0, ws.length ≤ 1000 := fun ws h => by
    obtain ⟨i, hi⟩ := List.getElem?_of_mem h
    exact hz7 i ws hi
  have fv7 := each_wd he7
  -- the disk
  refine ⟨_, rfl, se, acc7, rfl, .inl ⟨SqL.of hacc7, fun t0 nt0 => ?_⟩⟩
  intro dk dx ndk ndx ndd
  have c1 : Chg [] [] H7 (upd H7 t0 (.tup acc7)) := Chg.mk0 nt0 _
  have c2 := c1.trans (Chg.mk0 ndx (.own dk))
  have ndk' : upd (upd H7 t0 (.tup acc7)) dx (.own dk) dk = none := by rw [upd_ne ndd.symm]; exact ndk
  have c3 := c2.trans (Chg.mk1 ndk' (.ins D.cDisk dx []))
  refine ⟨dk, dx, .ref t0, vis0, rfl, upd_same, Ft.mkTup ?_ (fv7.mono c3.tups), by omega, fun H8 pe vi g8 D8 => ⟨rfl, ?_⟩⟩
  · have e1 : upd (upd H7 t0 (.tup acc7)) dx (.own dk) t0 = some (.tup acc7) := (upd_ne (ne_of_none upd_same ndx)).trans upd_same
    exact (upd_ne (ne_of_none e1 ndk')).trans e1
  have c4 := c3.trans g8
  have S8 : StAt H8 st c := S7.keep c4 (by intro h; cases h) (by intro h; cases h)
  have hse8 : H8 se = some (.lst acc7) := c4.keep _ _ hacc7 (by intro h; cases h)
  have nw : ∀ a, a ∈ [dk, pe, vi] → H7 a = none := fun a h => (c4.new a h).elim (fun z => by cases z) id
  refine ⟨_, rfl, se, acc7, rfl, .inl ⟨SqL.of hse8, fun t2 nt2 => ?_⟩⟩
  have c5 : Chg [] [] H8 (upd H8 t2 (.tup acc7)) := Chg.mk0 nt2 _
  refine ⟨Nat.zero_le _, fun pn npn => ?_⟩
  have c6 : Chg [] [] _ _ := c5.trans (Chg.mk0 npn (.lst []))
  have c7 := c4.mono (fun _ h => h) (fun a h => .inl h)
  have fvT := fv7.mono (c4.trans (c6.mono (fp := []) (gp := [dk, pe, vi]) (gp' := [dk, pe, vi]) (fun _ h => by cases h) (fun _ h => .inr h))).tups
  have W0 : Wd D.cDisk (upd (upd H8 t2 (.tup acc7)) pn (.lst [])) st c dk pe vi se pn (.ref t2) vis0 [] vis0 vis0 [] vis0 := by
    have e0 : ∀ a ∈ [dk, pe, vi], a ≠ st ∧ a ≠ c ∧ a ≠ se := fun a h => ⟨(S7.free (nw a h)).1, (S7.free (nw a h)).2, fun z => by have := nw a h; rw [z, hacc7] at this; cases this⟩
    obtain ⟨p1, p2, p3⟩ := e0 dk (by simp)
    obtain ⟨q1, q2, q3⟩ := e0 pe (by simp)
    obtain ⟨r1', r2', r3⟩ := e0 vi (by simp)
    have D9 := D8.keep c6 (by intro h; cases h) (by intro h; cases h) (by intro h; cases h)
    have npn8 : H8 pn = none := c5.dom _ npn
    obtain ⟨s1', s2'⟩ := S8.free npn8
    have s3 : pn ≠ se := fun z => by rw [z, hse8] at npn8; cases npn8
    obtain ⟨⟨dx', du', i1, _⟩, ⟨_, i2, _⟩, ⟨_, i3, _⟩, _⟩ := D8
    refine ⟨S8.keep c6 (by intro h; cases h) (by intro h; cases h), D9, ⟨acc7, c6.keep _ _ hse8 (by intro h; cases h), fvT⟩, ⟨[], upd_same, .nil⟩, Ft.mkTup (by rw [upd_ne (ne_of_none upd_same npn)]; exact upd_same) fvT, ?_⟩
    simp only [List.nodup_cons, List.mem_cons, List.not_mem_nil, or_false, not_or, not_false_eq_true, List.nodup_nil, and_true]
    exact ⟨⟨S8.ne, p1.symm, q1.symm, r1'.symm, f1.symm, s1'.symm⟩, ⟨p2.symm, q2.symm, r2'.symm, f2.symm, s2'.symm⟩, ⟨D9.nep, D9.nev, p3, (ne_of_none i1 npn8)⟩, ⟨D9.ne, q3, (ne_of_none i2 npn8)⟩, ⟨r3, (ne_of_none i3 npn8)⟩, s3.symm⟩
  have lv0 : vis0.length = (1 + r1).toNat := hl7
  clear hacc he7
  -- the deeds
  refine ⟨_, rfl, st, c, 50, rfl, W0.S, by decide, by decide, fun rn H9 n1 n2 g9 => ⟨_, _, rfl, rfl, 10 + rn, rfl, by omega, by omega, ?_⟩⟩
  have W1 := W0.draw (g9.chg W0.S) g9.st
  let Pv : Nat → L2.St → Hp → Prop := fun i σ H => ∃ pe vi pn du2 dur pend vis x4 x9 x10 x11, σ = [some (.ref a), some (.ref st), some (.int (1 + r1)), some (.int (1 + r2)), x4, some (.ref se), some (.ref dk), some du2, some (.ref pn), x9, x10, x11] ∧
    Wd D.cDisk H st c dk pe vi se pn du2 dur pend vis dur pend vis ∧ vis.length = (1 + r1).toNat ∧ pend.length ≤ i ∧ ∀ ws ∈ vis, ws.length ≤ 1000
  refine for_range (lo := 0) (n := (10 + rn).toNat) Pv ⟨pe, vi, pn, _, _, _, _, _, _, _, _, rfl, W1, lv0, Nat.le_refl _, lw0⟩ ?_ (fun σ H _ => q _)
  rintro i σ H10 hi ⟨pe, vi, pn, du2, dur, pend, vis, x4, x9, x10, x11, rfl, W, lv, lp, lww⟩
  refine ⟨Pv (i + 1), ?_, ?_⟩
  · refine ⟨_, rfl, st, c, 5, rfl, W.S, by decide, by decide, fun d H11 d1 d2 g11 => ⟨rfl, _, rfl, ite2 (fun _ => ?_) (fun _ => ?_)⟩⟩
    · have W2 := W.draw (g11.chg W.S) g11.st
      obtain ⟨dx2, du3, i1, _⟩ := W2.D.ins
      refine ⟨_, rfl, dk, dx2, _, rfl, i1, df_no_barrier _ _ _, dk, pe, vi, dur, vis, pend, rfl, W2.D, fun H12 pe' g12 D12 => ?_⟩
      have W3 := W2.disk g12 D12
      obtain ⟨xs, x1, x2⟩ := W3.fse
      refine ⟨_, rfl, se, xs, rfl, .inl ⟨SqL.of x1, fun t nt => ?_⟩⟩
      have g13 : Chg [] [] H12 (upd H12 t (.tup xs)) := Chg.mk0 nt _
      have W4 := (W3.aside g13 (fun a h => by cases h)).setDu (v := .ref t) (dur3 := vis) (Ft.mkTup upd_same (x2.mono g13.tups))
      refine ⟨Nat.zero_le _, fun pn' npn' => ?_⟩
      exact ⟨pe', vi, pn', .ref t, vis, [], vis, _, _, _, _, rfl, W4.newPn npn', lv, Nat.zero_le _, lww⟩
    · have W2 := W.draw (g11.chg W.S) g11.st
      refine ⟨_, rfl, _, rfl, st, c, 1 + r1, rfl, W2.S, by omega, by omega, fun sec H12 s0 s1' g12 => ?_⟩
      have W3 := W2.draw (g12.chg W2.S) g12.st
      refine ⟨_, rfl, _, rfl, st, c, 1 + r2, rfl, W3.S, by omega, by omega, fun ws H13 l nl hl g13 S13 lw => ?_⟩
      have W4 := W3.draw g13 S13
      have lo := W3.free nl
      obtain ⟨dx2, du3, i1, _⟩ := W4.D.ins
      refine ⟨_, rfl, dk, dx2, _, rfl, i1, df_no_write _ _ _, _, rfl, _, rfl, dk, pe, vi, l, dur, vis, pend, sec, ws, rfl, W4.D, hl, s0, by omega, by omega, fun H14 g14 D14 => ?_⟩
      have W5 := W4.disk g14 D14
      obtain ⟨o1, o2, o3, o4, o5, o6, o7⟩ := lo
      have hl5 : H14 l = some (.lst (ws.map V.int)) := g14.keep _ _ hl (no3 o3 o4 o5)
      refine ⟨_, rfl, l, _, rfl, .inl ⟨SqL.of hl5, fun t nt => ?_⟩⟩
      have g15 : Chg [] [] H14 (upd H14 t (.tup (ws.map V.int))) := Chg.mk0 nt _
      have W6 := W5.aside g15 (fun a h => by cases h)
      obtain ⟨xs, x1, x2⟩ := W6.fse
      have lx := x2.len
      rw [List.length_map] at lx
      refine ⟨_, rfl, _, rfl, se, xs, sec, sec.toNat, rfl, rfl, x1, (by unfold ixN; rw [if_pos s0, if_pos (by omega)]), ?_⟩
      have W7 := W6.setSe (xs := xs.set sec.toNat (.ref t)) (vis3 := vis.set sec.toNat ws) (by rw [List.map_set]; exact x2.set _ (Ft.mkWd upd_same))
      have hl6 : upd H14 t (.tup (ws.map V.int)) l = some (.lst (ws.map V.int)) := g15.keep _ _ hl5 (by intro h; cases h)
      have hl7 : upd (upd H14 t (.tup (ws.map V.int))) se (.lst (xs.set sec.toNat (.ref t))) l = some (.lst (ws.map V.int)) := (upd_ne o6).trans hl6
      generalize upd (upd H14 t (.tup (ws.map V.int))) se (.lst (xs.set sec.toNat (.ref t))) = H15 at W7 hl7
      obtain ⟨ys, y1, y2⟩ := W7.fpn
      refine ⟨_, rfl, .inl ⟨rfl, _, SqL.of y1⟩, _, rfl, _, rfl, l, _, rfl, .inl ⟨SqL.of hl7, fun t2 nt2 => ?_⟩⟩
      refine ⟨(by show 2 ≤ sizeLine; decide), fun u nu => ?_⟩
      have g16 : Chg [] [] H15 (upd H15 t2 (.tup (ws.map V.int))) := Chg.mk0 nt2 _
      have g17 := g16.trans (Chg.mk0 nu (.tup [.int sec, .ref t2]))
      have W8 := W7.aside g17 (fun a h => by cases h)
      have y1' := g17.keep _ _ y1 (by intro h; cases h)
      have ly := y2.len
      rw [List.length_map] at ly
      refine ⟨pn, _, _, rfl, rfl, y1', small5 (by omega), ?_⟩
      have hl8 := g17.keep _ _ hl7 (by intro h; cases h)
      have W9 := W8.setPn (xs := ys ++ [.ref u]) (pend3 := pend ++ [(sec, ws)]) (by
        rw [List.map_append]
        refine (y2.mono g17.tups).app (.cons (Ft.mkTup upd_same (.cons (Ft.mkInt _) (.cons (Ft.mkWd ?_) .nil))) .nil)
        exact (upd_ne (ne_of_none upd_same nu)).trans upd_same)
      have hl9 := (upd_ne (o := .lst (ys ++ [.ref u])) o7).trans hl8
      refine ⟨_, rfl, .inl ⟨rfl, _, SqL.of hl9⟩, l, _, _, rfl, rfl, hl9, small5 (by rw [List.length_map]; omega), ?_⟩
      have g18 : Chg [l] [l] _ _ := Chg.set hl9 (.head _) (fun _ z => by cases z) (.lst (ws.map V.int ++ [.int 3]))
      have W10 := W9.aside g18 (fun a h => by
        rw [List.mem_singleton.mp h]
        simp only [List.mem_cons, List.not_mem_nil, or_false, not_or]
        exact ⟨o1, o2, o3, o4, o5, o6, o7⟩)
      exact ⟨pe, vi, pn, du2, dur, pend ++ [(sec, ws)], vis.set sec.toNat ws, _, _, _, _, rfl, W10, by rw [List.length_set]; exact lv, by rw [List.length_append, List.length_singleton]; omega, fun w' h' => (List.mem_or_eq_of_mem_set h').elim (lww w') (fun e => by rw [e]; omega)⟩
  · rintro σ H ⟨pe, vi, pn, du2, dur, pend, vis, x4, x9, x10, x11, rfl, W, lv, lp, lww⟩
    refine ⟨Pv (i + 1), ?_, ?_⟩
    · refine ⟨_, rfl, 1 + r1, rfl, by omega, by omega, ?_⟩
      refine for_range (lo := 0) (n := (1 + r1).toNat) (fun _ => Pv (i + 1)) ⟨pe, vi, pn, du2, dur, pend, vis, x4, x9, x10, x11, rfl, W, lv, lp, lww⟩ ?_ (fun σ H h => h)
      rintro j σ H hj ⟨pe, vi, pn, du2, dur, pend, vis, x4, x9, x10, x11, rfl, W, lv, lp, lww⟩
      obtain ⟨dx2, du3, i1, _⟩ := W.D.ins
      obtain ⟨ws, hw⟩ : ∃ ws, vis[(0 + (j : Int)).toNat]? = some ws := ⟨_, List.getElem?_eq_getElem (by omega)⟩
      refine ⟨_, rfl, dk, dx2, _, rfl, i1, df_no_look _ _ _, _, rfl, dk, pe, vi, dur, vis, pend, 0 + (j : Int), ws, rfl, W.D, by omega, hw, fun H11 l nl e11 => ?_⟩
      have g11 : Chg [] [l] H (upd H l (.lst (ws.map V.int))) := Chg.mk1 nl _
      have hl : H11 l = some (.lst (ws.map V.int)) := by rw [e11]; exact upd_same
      rw [← e11] at g11
      have lo := W.free nl
      have W2 := W.aside g11 (fun a h => by cases h)
      obtain ⟨xs, x1, x2⟩ := W2.fse
      obtain ⟨x, hx, fx⟩ := x2.get (i := (0 + (j : Int)).toNat) (d := wd ws) (by rw [List.getElem?_map, hw]; rfl)
      obtain ⟨tp, rfl, ht⟩ := fx.ofWd
      refine ⟨_, rfl, _, _, _, _, true, rfl, .ty _, .base (.lst hl), kit_ty (by decide +kernel), true, rfl, iteF ?_⟩
      refine ⟨_, rfl, _, rfl, _, rfl, se, xs, _, _, rfl, rfl, SqL.of x1, at_of (j := (0 + (j : Int)).toNat) (by omega) hx, tp, _, rfl, .inr (SqT.of ht), fun l2 nl2 => ?_⟩
      have g12 : Chg [] [] H11 (upd H11 l2 (.lst (ws.map V.int))) := Chg.mk0 nl2 _
      have hl2 := g12.keep _ _ hl (by intro h; cases h)
      refine ⟨_, _, .lst (SqL.of hl2) (FtAll.ints.dp K), .lst (SqL.of upd_same) (FtAll.ints.dp K), (Shp.list fun d hd => ?_).ok (n := 1) (by decide), (Shp.list fun d hd => ?_).ok (n := 1) (by decide), ?_⟩
      · obtain ⟨i, _, rfl⟩ := List.mem_map.mp hd
        exact Shp.int 0 i
      · obtain ⟨i, _, rfl⟩ := List.mem_map.mp hd
        exact Shp.int 0 i
      rw [(Shp.list (n := 0) (ds := ws.map .int) fun d hd => by
        obtain ⟨i, _, rfl⟩ := List.mem_map.mp hd
        exact Shp.int 0 i).eq]
      refine ⟨_, rfl, iteF ?_⟩
      have lw1 := lww ws (List.mem_of_getElem? hw)
      refine ⟨_, rfl, .inl ⟨rfl, _, SqL.of hl2⟩, l, _, _, rfl, rfl, hl2, small5 (by rw [List.length_map]; omega), ?_⟩
      have W3 := W2.aside g12 (fun a h => by cases h)
      have g13 : Chg [l] [l] _ _ := Chg.set hl2 (.head _) (fun _ z => by cases z) (.lst (ws.map V.int ++ [.int 7]))
      have W4 := W3.aside g13 (fun a h => by
        rw [List.mem_singleton.mp h]
        simp only [List.mem_cons, List.not_mem_nil, or_false, not_or]
        exact lo)
      exact ⟨pe, vi, pn, du2, dur, pend, vis, _, _, _, _, rfl, W4, lv, lp, lww⟩
    · rintro σ H ⟨pe, vi, pn, du2, dur, pend, vis, x4, x9, x10, x11, rfl, W, lv, lp, lww⟩
      obtain ⟨dx2, du3, i1, _⟩ := W.D.ins
      refine ⟨_, rfl, dk, dx2, _, rfl, i1, df_no_snapshot _ _ _, dk, pe, vi, dur, vis, pend, rfl, W.D, fun H11 v g11 f11 => ?_⟩
      have W2 := W.aside g11 (fun a h => by cases h)
      obtain ⟨xs, x1, x2⟩ := W2.fpn
      refine ⟨_, rfl, _, rfl, pn, xs, rfl, .inl ⟨SqL.of x1, fun t nt => ?_⟩⟩
      refine ⟨(by show 2 ≤ sizeLine; decide), fun p np => ?_⟩
      have g12 : Chg [] [] H11 (upd H11 t (.tup xs)) := Chg.mk0 nt _
      have g13 := g12.trans (Chg.mk0 np (.tup [du2, .ref t]))
      have W3 := W2.aside g13 (fun a h => by cases h)
      have f13 : Ft _ (snap dur pend) (.ref p) := Ft.mkTup (H := upd (upd H11 t (.tup xs)) p (.tup [du2, .ref t])) upd_same (.cons W3.fdu (.cons (Ft.mkTup ((upd_ne (ne_of_none upd_same np)).trans upd_same) (x2.mono g13.tups)) .nil))
      refine ⟨_, _, (f11.mono g13.tups).dp K, f13.dp K, (shp_snap _ _).ok (by decide), (shp_snap _ _).ok (by decide), ?_⟩
      rw [(shp_snap dur pend).eq]
      exact ⟨_, rfl, iteF ⟨pe, vi, pn, du2, dur, pend, vis, _, _, _, _, rfl, W3, lv, lp, lww⟩⟩
end
end S4
namespace S4
open PySem L2
theorem all_mk {P : Program} {w : World} {K : PySem.W.Frag} {h : Heap} {mg : Str → Option Value} {f1 f2 f3 f4 f5 f6 f7 f8 f9 f10 CDisk fa : Addr} {od1 an1 od2 an2 od3 an3 od4 an4 od5 an5 od6 an6 od7 an7 od8 an8 od9 an9 od10 an10 : Option Addr} {sl1 sl2 sl3 sl4 sl5 sl6 sl7 sl8 sl9 sl10 : Array (Option Value)} {oc1 kV1 dc1 pm1 cd1 ct1 oc2 kV2 dc2 pm2 cd2 ct2 oc3 kV3 dc3 pm3 cd3 ct3 oc4 kV4 dc4 pm4 cd4 ct4 oc5 kV5 dc5 pm5 cd5 ct5 oc6 kV6 dc6 pm6 cd6 ct6 oc7 kV7 dc7 pm7 cd7 ct7 oc8 kV8 dc8 pm8 cd8 ct8 oc9 kV9 dc9 pm9 cd9 ct9 oc10 kV10 dc10 pm10 cd10 ct10 : Value}  (X : K.In h) (G : h.Ns mainGlobals mg) (hfa : mg "law" = some (.ref fa))
    (aDisk : PySem.W.nsIn K mainGlobals "Disk" = some (some (.ref CDisk)))
    (a1 : PySem.W.nsIn K mainGlobals "blank" = some (some (.ref f1)))
    (l1 : K.lookup f1 = some ⟨oc1, od1, .func (PySem.W.fnOf "blank" "blank" (defArgs s_blank) (defBody s_blank) (defScope s_blank) .none kV1 dc1 pm1 an1 cd1 ct1), sl1⟩)
    (c1 : PySem.W.codeIn K cd1 "blank" = true)
    (k1 : PySem.W.keepIn K (.ref f1) = true)
    (a2 : PySem.W.findIn K (.ref CDisk) "__init__" = some (some (.ref f2)))
    (i2 : PySem.W.isFn K (.ref f2) = true)
    (l2 : K.lookup f2 = some ⟨oc2, od2, .func (PySem.W.fnOf "__init__" "Disk.__init__" (defArgs s_Disk___init__) (defBody s_Disk___init__) (defScope s_Disk___init__) .none kV2 dc2 pm2 an2 cd2 ct2), sl2⟩)
    (c2 : PySem.W.codeIn K cd2 "Disk.__init__" = true)
    (k2 : PySem.W.keepIn K (.ref f2) = true)
    (a3 : PySem.W.findIn K (.ref CDisk) "look" = some (some (.ref f3)))
    (i3 : PySem.W.isFn K (.ref f3) = true)
    (l3 : K.lookup f3 = some ⟨oc3, od3, .func (PySem.W.fnOf "look" "Disk.look" (defArgs s_Disk_look) (defBody s_Disk_look) (defScope s_Disk_look) .none kV3 dc3 pm3 an3 cd3 ct3), sl3⟩)
    (c3 : PySem.W.codeIn K cd3 "Disk.look" = true)
    (k3 : PySem.W.keepIn K (.ref f3) = true)
    (a4 : PySem.W.findIn K (.ref CDisk) "write" = some (some (.ref f4)))
    (i4 : PySem.W.isFn K (.ref f4) = true)
    (l4 : K.lookup f4 = some ⟨oc4, od4, .func (PySem.W.fnOf "write" "Disk.write" (defArgs s_Disk_write) (defBody s_Disk_write) (defScope s_Disk_write) .none kV4 dc4 pm4 an4 cd4 ct4), sl4⟩)
    (c4 : PySem.W.codeIn K cd4 "Disk.write" = true)
    (k4 : PySem.W.keepIn K (.ref f4) = true)
    (a5 : PySem.W.findIn K (.ref CDisk) "barrier" = some (some (.ref f5)))
    (i5 : PySem.W.isFn K (.ref f5) = true)
    (l5 : K.lookup f5 = some ⟨oc5, od5, .func (PySem.W.fnOf "barrier" "Disk.barrier" (defArgs s_Disk_barrier) (defBody s_Disk_barrier) (defScope s_Disk_barrier) .none kV5 dc5 pm5 an5 cd5 ct5), sl5⟩)
    (c5 : PySem.W.codeIn K cd5 "Disk.barrier" = true)
    (k5 : PySem.W.keepIn K (.ref f5) = true)
    (a6 : PySem.W.findIn K (.ref CDisk) "snapshot" = some (some (.ref f6)))
    (i6 : PySem.W.isFn K (.ref f6) = true)
    (l6 : K.lookup f6 = some ⟨oc6, od6, .func (PySem.W.fnOf "snapshot" "Disk.snapshot" (defArgs s_Disk_snapshot) (defBody s_Disk_snapshot) (defScope s_Disk_snapshot) .none kV6 dc6 pm6 an6 cd6 ct6), sl6⟩)
    (c6 : PySem.W.codeIn K cd6 "Disk.snapshot" = true)
    (k6 : PySem.W.keepIn K (.ref f6) = true)
    (a7 : PySem.W.nsIn K mainGlobals "_law_state" = some (some (.ref f7)))
    (l7 : K.lookup f7 = some ⟨oc7, od7, .func (PySem.W.fnOf "_law_state" "_law_state" (defArgs s__law_state) (defBody s__law_state) (defScope s__law_state) .none kV7 dc7 pm7 an7 cd7 ct7), sl7⟩)
    (c7 : PySem.W.codeIn K cd7 "_law_state" = true)
    (k7 : PySem.W.keepIn K (.ref f7) = true)
    (a8 : PySem.W.nsIn K mainGlobals "_law_draw" = some (some (.ref f8)))
    (l8 : K.lookup f8 = some ⟨oc8, od8, .func (PySem.W.fnOf "_law_draw" "_law_draw" (defArgs s__law_draw) (defBody s__law_draw) (defScope s__law_draw) .none kV8 dc8 pm8 an8 cd8 ct8), sl8⟩)
    (c8 : PySem.W.codeIn K cd8 "_law_draw" = true)
    (k8 : PySem.W.keepIn K (.ref f8) = true)
    (a9 : PySem.W.nsIn K mainGlobals "_law_words" = some (some (.ref f9)))
    (l9 : K.lookup f9 = some ⟨oc9, od9, .func (PySem.W.fnOf "_law_words" "_law_words" (defArgs s__law_words) (defBody s__law_words) (defScope s__law_words) .none kV9 dc9 pm9 an9 cd9 ct9), sl9⟩)
    (c9 : PySem.W.codeIn K cd9 "_law_words" = true)
    (k9 : PySem.W.keepIn K (.ref f9) = true)
    (a10 : PySem.W.nsIn K mainGlobals "law" = some (some (.ref f10)))
    (l10 : K.lookup f10 = some ⟨oc10, od10, .func (PySem.W.fnOf "law" "law" (defArgs s_law) (defBody s_law) (defScope s_law) .none kV10 dc10 pm10 an10 cd10 ct10), sl10⟩)
    (c10 : PySem.W.codeIn K cd10 "law" = true)
    (k10 : PySem.W.keepIn K (.ref f10) = true)
    (pgDisk : PySem.W.plainGet K CDisk Str.empty = true)
    (hdDisk : PySem.W.hasDictIn K CDisk = true)
    (poDisk : PySem.W.plainOver K CDisk = true)
    (saDisk : PySem.W.findIn K (.ref CDisk) "__setattr__" = some (some (.builtin "object.__setattr__")))
    (mkDisk : PySem.W.makesIn K CDisk = true)
    (kcDisk : PySem.W.keepIn K (.ref CDisk) = true)
    (nDisk_durable : PySem.W.findIn K (.ref CDisk) "_durable" = some none)
    (nDisk_pending : PySem.W.findIn K (.ref CDisk) "_pending" = some none)
    (nDisk_visible : PySem.W.findIn K (.ref CDisk) "_visible" = some none)
    (zlen : PySem.W.nsIn K mainGlobals "len" = some none)
    (zint : PySem.W.nsIn K mainGlobals "int" = some none)
    (zabs : PySem.W.nsIn K mainGlobals "abs" = some none)
    (zrange : PySem.W.nsIn K mainGlobals "range" = some none)
    (zisinstance : PySem.W.nsIn K mainGlobals "isinstance" = some none)
    (zlist : PySem.W.nsIn K mainGlobals "list" = some none)
    (ztuple : PySem.W.nsIn K mainGlobals "tuple" = some none) :
    ∃ fd : FuncData, (∀ (s : Shared) (v : Value), BindsTo s fd ⟨[v], []⟩ [("script", v)]) ∧ ∀ base : Heap, K.In base → base.Ns mainGlobals mg → FnOk P w K mg base CX0 4 fa fd ["script"] (spLaw K) := by
  have e := hfa.symm.trans (PySem.W.mg_of X G a10)
  cases e
  have F1 := fun_mk (st := s_blank) l1 c1 k1
  have b1 := F1.binds (ps := ["sectors", "width"]) fun _ _ _ _ _ _ us hl => match us, hl with | [_, _], _ => rfl
  have F2 := fun_mk (st := s_Disk___init__) l2 c2 k2
  have b2 := F2.binds (ps := ["self", "contents"]) fun _ _ _ _ _ _ us hl => match us, hl with | [_, _], _ => rfl
  have F3 := fun_mk (st := s_Disk_look) l3 c3 k3
  have b3 := F3.binds (ps := ["self", "sector"]) fun _ _ _ _ _ _ us hl => match us, hl with | [_, _], _ => rfl
  have F4 := fun_mk (st := s_Disk_write) l4 c4 k4
  have b4 := F4.binds (ps := ["self", "sector", "words"]) fun _ _ _ _ _ _ us hl => match us, hl with | [_, _, _], _ => rfl
  have F5 := fun_mk (st := s_Disk_barrier) l5 c5 k5
  have b5 := F5.binds (ps := ["self"]) fun _ _ _ _ _ _ us hl => match us, hl with | [_], _ => rfl
  have F6 := fun_mk (st := s_Disk_snapshot) l6 c6 k6
  have b6 := F6.binds (ps := ["self"]) fun _ _ _ _ _ _ us hl => match us, hl with | [_], _ => rfl
  have F7 := fun_mk (st := s__law_state) l7 c7 k7
  have b7 := F7.binds (ps := ["script"]) fun _ _ _ _ _ _ us hl => match us, hl with | [_], _ => rfl
  have F8 := fun_mk (st := s__law_draw) l8 c8 k8
  have b8 := F8.binds (ps := ["state", "many"]) fun _ _ _ _ _ _ us hl => match us, hl with | [_, _], _ => rfl
  have F9 := fun_mk (st := s__law_words) l9 c9 k9
  have b9 := F9.binds (ps := ["state", "width"]) fun _ _ _ _ _ _ us hl => match us, hl with | [_, _], _ => rfl
  have F10 := fun_mk (st := s_law) l10 c10 k10
  have b10 := F10.binds (ps := ["script"]) fun _ _ _ _ _ _ us hl => match us, hl with | [_], _ => rfl
  have O : Ok P K mg { fblank := f1, dblank := PySem.W.fnOf "blank" "blank" (defArgs s_blank) (defBody s_blank) (defScope s_blank) .none kV1 dc1 pm1 an1 cd1 ct1, fDisk___init__ := f2, dDisk___init__ := PySem.W.fnOf "__init__" "Disk.__init__" (defArgs s_Disk___init__) (defBody s_Disk___init__) (defScope s_Disk___init__) .none kV2 dc2 pm2 an2 cd2 ct2, fDisk_look := f3, dDisk_look := PySem.W.fnOf "look" "Disk.look" (defArgs s_Disk_look) (defBody s_Disk_look) (defScope s_Disk_look) .none kV3 dc3 pm3 an3 cd3 ct3, fDisk_write := f4, dDisk_write := PySem.W.fnOf "write" "Disk.write" (defArgs s_Disk_write) (defBody s_Disk_write) (defScope s_Disk_write) .none kV4 dc4 pm4 an4 cd4 ct4, fDisk_barrier := f5, dDisk_barrier := PySem.W.fnOf "barrier" "Disk.barrier" (defArgs s_Disk_barrier) (defBody s_Disk_barrier) (defScope s_Disk_barrier) .none kV5 dc5 pm5 an5 cd5 ct5, fDisk_snapshot := f6, dDisk_snapshot := PySem.W.fnOf "snapshot" "Disk.snapshot" (defArgs s_Disk_snapshot) (defBody s_Disk_snapshot) (defScope s_Disk_snapshot) .none kV6 dc6 pm6 an6 cd6 ct6, f_law_state := f7, d_law_state := PySem.W.fnOf "_law_state" "_law_state" (defArgs s__law_state) (defBody s__law_state) (defScope s__law_state) .none kV7 dc7 pm7 an7 cd7 ct7, f_law_draw := f8, d_law_draw := PySem.W.fnOf "_law_draw" "_law_draw" (defArgs s__law_draw) (defBody s__law_draw) (defScope s__law_draw) .none kV8 dc8 pm8 an8 cd8 ct8, f_law_words := f9, d_law_words := PySem.W.fnOf "_law_words" "_law_words" (defArgs s__law_words) (defBody s__law_words) (defScope s__law_words) .none kV9 dc9 pm9 an9 cd9 ct9, flaw := f10, dlaw := PySem.W.fnOf "law" "law" (defArgs s_law) (defBody s_law) (defScope s_law) .none kV10 dc10 pm10 an10 cd10 ct10, cDisk := CDisk } :=
    { Fblank := F1,
      bblank := b1,
      mblank := PySem.W.mg_of X G a1,
      FDisk___init__ := F2,
      bDisk___init__ := b2,
      FDisk_look := F3,
      bDisk_look := b3,
      eDisk_look := ⟨a3, i3, k3⟩,
      FDisk_write := F4,
      bDisk_write := b4,
      eDisk_write := ⟨a4, i4, k4⟩,
      FDisk_barrier := F5,
      bDisk_barrier := b5,
      eDisk_barrier := ⟨a5, i5, k5⟩,
      FDisk_snapshot := F6,
      bDisk_snapshot := b6,
      eDisk_snapshot := ⟨a6, i6, k6⟩,
      F_law_state := F7,
      b_law_state := b7,
      m_law_state := PySem.W.mg_of X G a7,
      F_law_draw := F8,
      b_law_draw := b8,
      m_law_draw := PySem.W.mg_of X G a8,
      F_law_words := F9,
      b_law_words := b9,
      m_law_words := PySem.W.mg_of X G a9,
      Flaw := F10,
      blaw := b10,
      mlaw := PySem.W.mg_of X G a10,
      mDisk := PySem.W.mg_of X G aDisk,
      clDisk := ⟨pgDisk, hdDisk, poDisk, saDisk⟩,
      mkDisk := ⟨mkDisk, a2, i2, kcDisk⟩,
      nDisk__durable := nDisk_durable,
      nDisk__pending := nDisk_pending,
      nDisk__visible := nDisk_visible,
      zlen := PySem.W.mg_none_of X G zlen,
      zint := PySem.W.mg_none_of X G zint,
      zabs := PySem.W.mg_none_of X G zabs,
      zrange := PySem.W.mg_none_of X G zrange,
      zisinstance := PySem.W.mg_none_of X G zisinstance,
      zlist := PySem.W.mg_none_of X G zlist,
      ztuple := PySem.W.mg_none_of X G ztuple }
  exact ⟨PySem.W.fnOf "law" "law" (defArgs s_law) (defBody s_law) (defScope s_law) .none kV10 dc10 pm10 an10 cd10 ct10, fun s v => .of_eq rfl, fun base _ _ => ok_law O⟩
theorem walk {l : PySem.W.OpenLaw} {q : Program} {loose : List Str} {XP : (Str → Option Value) → Heap → Prop} {YP : World → Heap → Prop} {d : DefRec} {K : Params → PySem.W.Frag} (hn : l.most = some 63) (hdf : d.params.defaults = [])
    (hY : ∀ (w : World) (h : Heap), YP w h → (K w.params).In h)
    (F : ∀ (w : World) (mg : Str → Option Value) (fa : Addr) (h : Heap), (K w.params).In h → h.Ns mainGlobals mg → mg d.name = some (.ref fa) →
      ∃ fd : FuncData, (∀ (s : Shared) (u : Value), BindsTo s fd ⟨[u], []⟩ [("script", u)]) ∧ ∀ base : Heap, (K w.params).In base → base.Ns mainGlobals mg → FnOk l.prog w (K w.params) mg base CX0 4 fa fd ["script"] (spLaw (K w.params))) :
    PySem.W.WalkO q loose XP YP l.row.toRowW d [] (fun f vs => PySem.call f vs) :=
  L2.walk_of (n := 63) (k := 4) (x := "script") (CX := fun _ => CX0) (sp := fun w => spLaw (K w.params)) hn (by decide) hdf ⟨rfl, by decide, by decide⟩ hY F (fun _ _ a ns hl _ hS => ⟨a, ns, rfl, hS, hl, fun _ => rfl⟩) fun _ _ _ _ _ z => z
end S4
open PySem PySem.W PyProof.Rows
set_option maxRecDepth 100000 in
set_option maxHeartbeats 0 in
theorem PySem.Challenge.cw_salvor_k04_disks_holds : PySem.Challenge.rw_salvor_k04_disks.Holds := by
  w_on; o_law; k_head; (case hw => w_witness2)
  k_fill
  refine S4.walk (l := PySem.Challenge.rw_salvor_k04_disks) rfl rfl (fun w h Y => PySem.W.kIn_of Y) ?F
  case F =>
    intro w mg fa h KX G hmg
    refine' S4.all_mk KX G hmg ?aDisk ?a1 ?l1 ?c1 ?k1 ?a2 ?i2 ?l2 ?c2 ?k2 ?a3 ?i3 ?l3 ?c3 ?k3 ?a4 ?i4 ?l4 ?c4 ?k4 ?a5 ?i5 ?l5 ?c5 ?k5 ?a6 ?i6 ?l6 ?c6 ?k6 ?a7 ?l7 ?c7 ?k7 ?a8 ?l8 ?c8 ?k8 ?a9 ?l9 ?c9 ?k9 ?a10 ?l10 ?c10 ?k10 ?pgDisk ?hdDisk ?poDisk ?saDisk ?mkDisk ?kcDisk ?nDisk_durable ?nDisk_pending ?nDisk_visible ?zlen ?zint ?zabs ?zrange ?zisinstance ?zlist ?ztuple
    (case aDisk => k_is)
    (case a1 => k_is)
    (case l1 => k_is)
    (case c1 => k_is)
    (case k1 => k_is)
    (case a2 => k_is)
    (case i2 => k_is)
    (case l2 => k_is)
    (case c2 => k_is)
    (case k2 => k_is)
    (case a3 => k_is)
    (case i3 => k_is)
    (case l3 => k_is)
    (case c3 => k_is)
    (case k3 => k_is)
    (case a4 => k_is)
    (case i4 => k_is)
    (case l4 => k_is)
    (case c4 => k_is)
    (case k4 => k_is)
    (case a5 => k_is)
    (case i5 => k_is)
    (case l5 => k_is)
    (case c5 => k_is)
    (case k5 => k_is)
    (case a6 => k_is)
    (case i6 => k_is)
    (case l6 => k_is)
    (case c6 => k_is)
    (case k6 => k_is)
    (case a7 => k_is)
    (case l7 => k_is)
    (case c7 => k_is)
    (case k7 => k_is)
    (case a8 => k_is)
    (case l8 => k_is)
    (case c8 => k_is)
    (case k8 => k_is)
    (case a9 => k_is)
    (case l9 => k_is)
    (case c9 => k_is)
    (case k9 => k_is)
    (case a10 => k_is)
    (case l10 => k_is)
    (case c10 => k_is)
    (case k10 => k_is)
    (case pgDisk => k_is)
    (case hdDisk => k_is)
    (case poDisk => k_is)
    (case saDisk => k_is)
    (case mkDisk => k_is)
    (case kcDisk => k_is)
    (case nDisk_durable => k_is)
    (case nDisk_pending => k_is)
    (case nDisk_visible => k_is)
    (case zlen => k_is)
    (case zint => k_is)
    (case zabs => k_is)
    (case zrange => k_is)
    (case zisinstance => k_is)
    (case zlist => k_is)
    (case ztuple => k_is)
