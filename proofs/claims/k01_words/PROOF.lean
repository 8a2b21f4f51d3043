import PyProof.Rows.All
import Wide.All
import OpenK.AllK
import Wide.FinOn
import HandS.ForMost
import HandS.IsInst
import HandS.Sort
import HandS.Conv
import PySem.Challenge.RW_salvor_k01_words
set_option Elab.async false
set_option maxRecDepth 100000
set_option maxHeartbeats 4000000
namespace S1
open PySem L2
/-! ### the text by places -/
def top (i : Nat) : Stmt := PySem.Challenge.pw_salvor_k01_words.main.body.getD i (.Pass ⟨0, 0, 0, 0⟩)
abbrev sWrap : Stmt := top 2
abbrev sComb : Stmt := top 3
abbrev sState : Stmt := top 5
abbrev sDraw : Stmt := top 6
abbrev sSum : Stmt := top 7
abbrev sDue : Stmt := top 8
abbrev sLaw : Stmt := top 9
/-! ### two rules of my own: range(n) as a value, not in a range -/
theorem my_range1 {X : Cx} : CallR X (.type "range") (fun vs H Q => ∃ j, vs = [V.int j] ∧ ∀ p, H p = none → Q (.ref p) (upd H p (.rng 0 j))) := by
  intro pins s σ H vs us Q I r h
  obtain ⟨j, rfl, q⟩ := h
  obtain ⟨u1, rfl, ri⟩ := vals1 r
  obtain ⟨t, rfl⟩ := ri
  refine call_range_1 ⟨.ref s.heap.objs.size, upd H s.heap.objs.size (.rng 0 j), I.laid (t' := s.toks + 1 + 1) (fun b o e => Heap.get?_push_of_some _ e) (Nat.le_refl _) ?_, rfl, q _ (I.hok.fresh (Nat.le_refl _))⟩
  exact ⟨_, _, _, Heap.get?_push_size _ rfl⟩
theorem my_notin_rng {X : Cx} : OpR X (compareOp .NotIn) (fun x y H Q => ∃ i a lo hi, x = V.int i ∧ y = V.ref a ∧ H a = some (.rng lo hi) ∧ Q (.bl (!decide (lo ≤ i ∧ i < hi))) H) := by
  intro pins s σ H x y v u Q I rx ry h
  obtain ⟨i, a, lo, hi, rfl, rfl, ha, q⟩ := h
  obtain ⟨k, rfl⟩ := rx
  obtain rfl : u = Value.ref a := ry
  obtain ⟨t1, t2, t3, ho⟩ := I.hok a _ ha
  show wpAny _ _ (do return Value.bool (!(← contains (Value.ref a) (Value.int i k)))) _ _ s
  refine wpAny_bind (wpAny_contains_slot (T := "range") ⟨_, ho, rfl⟩ F.slot_range_contains (call_meets F.slot_range_contains ⟨_, ho, rfl⟩ F.entry_range_contains (F.args_range_contains_2 _ _) (q_contains a lo hi i t1 t2 t3 k)
    ⟨ho, wpAny_truthy_bool (wpAny_pure ⟨.bl _, H, I, rfl, ?_⟩)⟩))
  rw [place1]
  exact q
/-! ### the mathematics -/
/-- what an operator gives for two words -/
def val (z : Str) (a b : Int) : Int :=
  if V.str z = V.str "+" then (a + b) % 16 else if V.str z = V.str "-" then (a - b) % 16 else if V.str z = V.str "*" then (a * b) % 16
  else if V.str z = V.str "==" then (if a = b then 1 else 0) else if V.str z = V.str "<" then (if a < b then 1 else 0)
  else if V.str z = V.str "and" then (if a ≠ 0 ∧ b ≠ 0 then 1 else 0) else (if a ≠ 0 ∨ b ≠ 0 then 1 else 0)
theorem val_int (z : Str) (a b : Int) : 0 ≤ val z a b ∧ val z a b < 16 := by
  unfold val
  split
  · omega
  · split
    · omega
    · split
      · omega
      · split
        · split <;> omega
        · split
          · split <;> omega
          · split
            · split <;> omega
            · split <;> omega
/-- the numbers of 0 .. i-1 that give a with b -/
def hits (a b : Int) (i : Nat) : List Int := ((List.range i).map fun (n : Nat) => (n : Int)).filter fun n => decide ((n + b) % 16 = a)
theorem hits_succ (a b : Int) (i : Nat) : hits a b (i + 1) = if ((i : Int) + b) % 16 = a then hits a b i ++ [(i : Int)] else hits a b i := by
  unfold hits
  rw [List.range_succ, List.map_append, List.filter_append]
  by_cases h : ((i : Int) + b) % 16 = a
  · rw [if_pos h]
    simp [h]
  · rw [if_neg h]
    simp [h]
theorem hits_len (a b : Int) (i : Nat) : (hits a b i).length ≤ i := by
  unfold hits
  refine Nat.le_trans (List.length_filter_le _ _) ?_
  rw [List.length_map, List.length_range]
  exact Nat.le_refl _
theorem hits_all : ∀ a ∈ List.range 16, ∀ b ∈ List.range 16, (hits (a : Nat) (b : Nat) 16)[0]? = some (((a : Int) - (b : Int)) % 16) := by decide +kernel
theorem hits_0 {a b : Int} (ha : 0 ≤ a) (ha' : a < 16) (hb : 0 ≤ b) (hb' : b < 16) : (hits a b 16)[0]? = some ((a - b) % 16) := by
  have h := hits_all a.toNat (List.mem_range.mpr (by omega)) b.toNat (List.mem_range.mpr (by omega))
  rw [Int.toNat_of_nonneg ha, Int.toNat_of_nonneg hb] at h
  exact h
/-- a stands among 0 .. b-1 -/
theorem in_range {a b : Int} (ha : 0 ≤ a) (hb : 0 ≤ b) : inV (V.int a) ((List.range b.toNat).map fun (n : Nat) => V.int (n : Int)) = decide (a < b) := by
  unfold inV
  rw [List.any_map, Bool.eq_iff_iff, List.any_eq_true, decide_eq_true_eq]
  constructor
  · rintro ⟨n, hn, e⟩
    have e' : (n : Int) = a := by simpa [eqV] using e
    have := List.mem_range.mp hn
    omega
  · intro h
    refine ⟨a.toNat, List.mem_range.mpr (by omega), ?_⟩
    have : ((a.toNat : Nat) : Int) = a := by omega
    simp [eqV, this]
/-! ### heaps -/
/-- all but the two objects of the state is as it was -/
def But (H H' : Hp) (st c : Addr) : Prop := ∀ b o, H b = some o → b ≠ st → b ≠ c → H' b = some o
theorem But.refl (H : Hp) (st c : Addr) : But H H st c := fun _ _ e _ _ => e
theorem But.trans {H H1 H2 : Hp} {st c : Addr} (a : But H H1 st c) (b : But H1 H2 st c) : But H H2 st c := fun x o e h1 h2 => b x o (a x o e h1 h2) h1 h2
theorem Same.but {H H' : Hp} (s : Same H H') (st c : Addr) : But H H' st c := fun x o e _ _ => s x o e
theorem new_same {H : Hp} {p : Addr} (h : H p = none) (o : HO) : Same H (upd H p o) := fun b u q => by rw [upd_ne (ne_of_none q h)]; exact q
/-- the state of the draws: its list at st, the cells' list at c -/
structure StAt (H : Hp) (st c : Addr) : Prop where
  top : ∃ m : Int, H st = some (.lst [.ref c, .int m])
  cells : ∃ ns : List Int, ns.length ≤ 63 ∧ H c = some (.lst (ns.map V.int))
theorem StAt.ne {H : Hp} {st c : Addr} (S : StAt H st c) : st ≠ c := by
  obtain ⟨⟨m, h1⟩, ⟨ns, _, h2⟩⟩ := S
  refine ne_of h1 h2 fun e => ?_
  injection e with e
  cases ns with
  | nil => cases e
  | cons a r => cases e
theorem StAt.same {H H' : Hp} {st c : Addr} (S : StAt H st c) (s : Same H H') : StAt H' st c := by
  obtain ⟨⟨m, h1⟩, ⟨ns, l, h2⟩⟩ := S
  exact ⟨⟨m, s _ _ h1⟩, ⟨ns, l, s _ _ h2⟩⟩
/-! ### the promises -/
theorem yes {σ : St} {H : Hp} {Q : Bool → Hp → Prop} (h : Q true H) : tYes σ H Q := h
def spWrap : Sp := fun vs H Q _ => ∃ n : Int, vs = [.int n] ∧ Q (.int (n % 16)) H
def spComb : Sp := fun vs H Q _ => ∃ (z : Str) (a b : Int), vs = [.str z, .int a, .int b] ∧ 0 ≤ a ∧ a < 16 ∧ 0 ≤ b ∧ b < 16 ∧ Q (.int (val z a b)) H
def spSum : Sp := fun vs H Q _ => ∃ a b : Int, vs = [.int a, .int b] ∧ 0 ≤ a ∧ a < 16 ∧ 0 ≤ b ∧ b < 16 ∧ Q (.int ((a + b) % 16)) H
def spDue : Sp := fun vs H Q _ => ∃ (z : Str) (a b : Int), vs = [.str z, .int a, .int b] ∧ 0 ≤ a ∧ a < 16 ∧ 0 ≤ b ∧ b < 16 ∧ ∀ H', Same H H' → Q (.int (val z a b)) H'
def spState (K : PySem.W.Frag) : Sp := fun vs H Q _ => ∃ (a : Addr) (ns : List Int), vs = [.ref a] ∧ SqL K H a (ns.map V.int) ∧ ns.length ≤ 63 ∧ ∀ (st c : Addr) (H' : Hp), Same H H' → H st = none → H c = none → StAt H' st c → Q (.ref st) H'
def spDraw : Sp := fun vs H Q _ => ∃ (st c : Addr) (many : Int), vs = [.ref st, .int many] ∧ StAt H st c ∧ 0 < many ∧ many < 1000000 ∧
  ∀ (r : Int) (H' : Hp), 0 ≤ r → r < many → StAt H' st c → But H H' st c → Q (.int r) H'
def spLaw (K : PySem.W.Frag) : Sp := fun vs H Q _ => ∃ (a : Addr) (ns : List Int), vs = [.ref a] ∧ SqL K H a (ns.map V.int) ∧ ns.length ≤ 63 ∧ Only H ∧ ∀ H', Q (.bl true) H'
/-- the built-ins' names and the constant -/
structure Txt (mg : Str → Option Value) : Prop where
  len : mg "len" = none
  int : mg "int" = none
  abs : mg "abs" = none
  range : mg "range" = none
  isi : mg "isinstance" = none
  bool : mg "bool" = none
  words : ∃ t, mg "WORDS" = some (.int 16 t)
section
variable {P : Program} {w : World} {K : PySem.W.Frag} {mg : Str → Option Value} {base : Heap}
/-! ### wrap, combine -/
theorem scWrap : FnScope ["n"] ["n"] (defScope sWrap) := ⟨rfl, rfl, rfl, by decide +kernel, rfl, by decide +kernel, by decide +kernel⟩
theorem ok_wrap {f : Addr} {fd : FuncData} (F : Fun K "wrap" "wrap" sWrap f fd) (T : Txt mg) : FnOk P w K mg base CX0 1 f fd ["n"] spWrap := by
  refine F.ok scWrap (fun vs H Q E h => ?_) (fun cdv A outer s H vs Q E hr h => ?_)
  · obtain ⟨n, rfl, _⟩ := h
    rfl
  obtain ⟨n, rfl, q⟩ := h
  obtain ⟨t, ht⟩ := T.words
  refine ⟨_, pss_one (ps_ret (pe_op op_mod (pv 0) (pe_glob (v := .int 16) (by rfl) ht ⟨_, rfl⟩))), ?_⟩
  exact ⟨_, rfl, _, _, rfl, rfl, (by show (0 : Int) < 16; decide), q⟩
theorem scComb : FnScope ["operator", "a", "b"] ["operator", "a", "b"] (defScope sComb) := ⟨rfl, rfl, rfl, by decide +kernel, rfl, by decide +kernel, by decide +kernel⟩
theorem ok_comb {f g : Addr} {fd gd : FuncData} (F : Fun K "combine" "combine" sComb f fd) (T : Txt mg) (FG : Fun K "wrap" "wrap" sWrap g gd) (bG : Binds K gd ["n"] []) (mG : mg "wrap" = some (.ref g)) : FnOk P w K mg base CX0 2 f fd ["operator", "a", "b"] spComb := by
  have G : FnOk P w K mg base CX0 1 g gd ["n"] spWrap := ok_wrap FG T
  refine F.ok scComb (fun vs H Q E h => ?_) (fun cdv A outer s H vs Q E hr h => ?_)
  · obtain ⟨z, a, b, rfl, _⟩ := h
    rfl
  obtain ⟨z, a, b, rfl, ha, ha', hb, hb', q⟩ := h
  refine ⟨_, pss_cons (ps_if (pt_cmpR op_eq (pv 0) pe_str (nomark _)) (pss_one (ps_ret (pe_call G hr rfl mG FG.kp bG .nil pass0 (pa_cons (pe_op op_add (pv 1) (pv 2)) pa_nil)))) pss_nil)
    (pss_cons (ps_if (pt_cmpR op_eq (pv 0) pe_str (nomark _)) (pss_one (ps_ret (pe_call G hr rfl mG FG.kp bG .nil pass0 (pa_cons (pe_op op_sub (pv 1) (pv 2)) pa_nil)))) pss_nil)
    (pss_cons (ps_if (pt_cmpR op_eq (pv 0) pe_str (nomark _)) (pss_one (ps_ret (pe_call G hr rfl mG FG.kp bG .nil pass0 (pa_cons (pe_op op_mul (pv 1) (pv 2)) pa_nil)))) pss_nil)
    (pss_cons (ps_if (pt_cmpR op_eq (pv 0) pe_str (nomark _)) (pss_one (ps_ret (pe_callTy call_int1 (by rfl) T.int PyProof.Rows.boot_int (pa_cons (pe_cmpR op_eq (pv 1) (pv 2) (nomark _)) pa_nil)))) pss_nil)
    (pss_cons (ps_if (pt_cmpR op_eq (pv 0) pe_str (nomark _)) (pss_one (ps_ret (pe_callTy call_int1 (by rfl) T.int PyProof.Rows.boot_int (pa_cons (pe_cmpR op_lt (pv 1) (pv 2) (nomark _)) pa_nil)))) pss_nil)
    (pss_cons (ps_if (pt_cmpR op_eq (pv 0) pe_str (nomark _)) (pss_one (ps_ret (pe_callTy call_int1 (by rfl) T.int PyProof.Rows.boot_int (pa_cons (pe_and (pe_cmpR op_ne (pv 1) pe_int (nomark _)) (pe_one (pe_cmpR op_ne (pv 2) pe_int (nomark _)))) pa_nil)))) pss_nil)
    (pss_one (ps_ret (pe_callTy call_int1 (by rfl) T.int PyProof.Rows.boot_int (pa_cons (pe_or (pe_cmpR op_ne (pv 1) pe_int (nomark _)) (pe_one (pe_cmpR op_ne (pv 2) pe_int (nomark _)))) pa_nil))))))))), ?_⟩
  unfold val at q
  refine ⟨_, rfl, rfl, _, rfl, ite2 (fun c => ?_) (fun c => ?_)⟩
  · rw [if_pos (of_decide_eq_true c)] at q
    exact ⟨_, rfl, _, rfl, _, _, rfl, rfl, _, rfl, q⟩
  rw [if_neg (fun e => c (decide_eq_true e))] at q
  refine ⟨_, rfl, rfl, _, rfl, ite2 (fun c => ?_) (fun c => ?_)⟩
  · rw [if_pos (of_decide_eq_true c)] at q
    exact ⟨_, rfl, _, rfl, _, _, rfl, rfl, _, rfl, q⟩
  rw [if_neg (fun e => c (decide_eq_true e))] at q
  refine ⟨_, rfl, rfl, _, rfl, ite2 (fun c => ?_) (fun c => ?_)⟩
  · rw [if_pos (of_decide_eq_true c)] at q
    exact ⟨_, rfl, _, rfl, _, _, rfl, rfl, .inl ⟨by omega, by omega⟩, _, rfl, q⟩
  rw [if_neg (fun e => c (decide_eq_true e))] at q
  refine ⟨_, rfl, rfl, _, rfl, ite2 (fun c => ?_) (fun c => ?_)⟩
  · rw [if_pos (of_decide_eq_true c)] at q
    refine ⟨_, rfl, _, rfl, rfl, .inr ⟨_, rfl, ?_⟩⟩
    simpa using q
  rw [if_neg (fun e => c (decide_eq_true e))] at q
  refine ⟨_, rfl, rfl, _, rfl, ite2 (fun c => ?_) (fun c => ?_)⟩
  · rw [if_pos (of_decide_eq_true c)] at q
    refine ⟨_, rfl, _, rfl, _, _, rfl, rfl, .inr ⟨_, rfl, ?_⟩⟩
    simpa using q
  rw [if_neg (fun e => c (decide_eq_true e))] at q
  refine ⟨_, rfl, rfl, _, rfl, ite2 (fun c => ?_) (fun c => ?_)⟩
  · rw [if_pos (of_decide_eq_true c)] at q
    refine ⟨_, rfl, rfl, _, rfl, ite2 (fun c1 => ?_) (fun c1 => ?_)⟩
    · refine ⟨_, rfl, rfl, .inr ⟨_, rfl, ?_⟩⟩
      have c1' : a ≠ 0 := by simpa using c1
      simpa [c1'] using q
    · refine .inr ⟨_, rfl, ?_⟩
      have c1' : a = 0 := by simpa using c1
      simpa [c1'] using q
  rw [if_neg (fun e => c (decide_eq_true e))] at q
  refine ⟨_, rfl, rfl, _, rfl, ite2 (fun c1 => ?_) (fun c1 => ?_)⟩
  · refine .inr ⟨_, rfl, ?_⟩
    have c1' : a ≠ 0 := by simpa using c1
    simpa [c1'] using q
  · refine ⟨_, rfl, rfl, .inr ⟨_, rfl, ?_⟩⟩
    have c1' : a = 0 := by simpa using c1
    simpa [c1'] using q
end
section
variable {P : Program} {w : World} {K : PySem.W.Frag} {mg : Str → Option Value} {base : Heap}
/-! ### the draws -/
theorem scState : FnScope ["script", "seed", "cell"] ["script"] (defScope sState) := ⟨rfl, rfl, rfl, by decide +kernel, rfl, by decide +kernel, by decide +kernel⟩
theorem ok_state {f : Addr} {fd : FuncData} (F : Fun K "_law_state" "_law_state" sState f fd) (T : Txt mg) : FnOk P w K mg base CX0 1 f fd ["script"] (spState K) := by
  refine F.ok scState (fun vs H Q E h => ?_) (fun cdv A outer s H vs Q E hr h => ?_)
  · obtain ⟨a, ns, rfl, _⟩ := h
    rfl
  obtain ⟨a, ns, rfl, hS, hlen, q⟩ := h
  refine ⟨_, pss_cons (ps_set (i := 1) scState.nd rfl (Or.inl rfl) pe_int)
    (pss_cons (ps_for PassesOwn.never rfl (pi_list (pv 0)) (pg_name (i := 2) scState.nd rfl (Or.inl rfl))
      (pss_one (ps_set (i := 1) scState.nd rfl (Or.inl rfl) (pe_op op_mod (pe_callTy call_int1 (by rfl) T.int PyProof.Rows.boot_int (pa_cons (pe_op op_add (pe_op op_mul (pv 1) pe_int) (pv 2)) pa_nil)) pe_int))))
    (pss_one (ps_ret (pe_lst (pa_cons
      (pe_lc (own := [("cell", 2)]) (g := gName 2) (by rfl) scState.nd (pi_list (pv 0)) (blkOk_by (own := [("cell", 2)]) (N := ["script", "seed", "cell"]) (sc := defScope sState) (by decide +kernel))
        (fun _ _ _ _ _ => pg_name (i := 2) scState.nd rfl (Or.inl rfl)) (fun _ _ _ _ _ => pts_nil) (fun _ _ _ _ _ => pe_callB call_abs (by rfl) T.abs PyProof.Rows.boot_abs (pa_cons (pv 2) pa_nil)))
      (pa_cons (pe_op op_add (pv 1) pe_int) pa_nil)))))), ?_⟩
  refine ⟨_, rfl, a, rfl, ⟨_, hS⟩, for_list (K := K) (a := a) (xs := ns.map V.int) (fun i σ H2 => ∃ (z : Int) (v : Option V), σ = [some (.ref a), some (.int z), v] ∧ H2 = H ∧ 0 ≤ z ∧ z < 1000003)
      ⟨7, none, rfl, rfl, by decide, by decide⟩ (fun i σ H2 _ ⟨_, _, _, e, _⟩ => by rw [e]; exact hS) ?_ ?_⟩
  · rintro i y σ H2 hi ⟨z, v, rfl, rfl, hz, hz'⟩
    obtain ⟨n, rfl⟩ : ∃ n, y = V.int n := by
      rw [List.getElem?_map] at hi
      cases e : ns[i]? with
      | none => rw [e] at hi; cases hi
      | some n => rw [e] at hi; exact ⟨n, (Option.some.inj hi).symm⟩
    refine ⟨_, rfl, _, _, rfl, rfl, .inl ⟨by omega, by omega⟩, _, rfl, _, _, rfl, rfl, .inl ⟨_, rfl, _, _, rfl, rfl, (by show (0 : Int) < 1000003; decide), ?_⟩⟩
    exact ⟨_, _, rfl, rfl, Int.emod_nonneg _ (by decide), Int.emod_lt_of_pos _ (by decide)⟩
  · rintro σ H2 ⟨z, v, rfl, rfl, hz, hz'⟩
    refine ⟨_, rfl, a, rfl, ⟨_, hS⟩, fun c nc => lc_list (K := K) (a := a) (xs := ns.map V.int) (fun i H3 => ∃ ms : List Int, ms.length = i ∧ H3 = upd H2 c (.lst (ms.map V.int)))
      ⟨[], rfl, rfl⟩ (fun i H3 _ ⟨ms, _, e⟩ => by rw [e]; exact (new_same nc _).seq hS) ?_ ?_⟩
    · rintro i y H3 hi ⟨ms, hm, rfl⟩
      obtain ⟨n, rfl⟩ : ∃ n, y = V.int n := by
        rw [List.getElem?_map] at hi
        cases e : ns[i]? with
        | none => rw [e] at hi; cases hi
        | some n => rw [e] at hi; exact ⟨n, (Option.some.inj hi).symm⟩
      have hil : i < ns.length := by
        have := (List.getElem?_eq_some_iff.mp hi).1
        rwa [List.length_map] at this
      refine ⟨rfl, yes (iteT ?_)⟩
      refine ⟨_, rfl, _, rfl, ms.map V.int, upd_same, (by rw [List.length_map]; exact small1000 (by omega)), ms ++ [if n < 0 then -n else n], by rw [List.length_append, hm]; rfl, ?_⟩
      rw [upd_upd, List.map_append]
      rfl
    · rintro H3 ⟨ms, hm, rfl⟩
      refine ⟨_, rfl, _, _, rfl, rfl, (by show 2 ≤ sizeLine; decide), fun st nst => ?_⟩
      have hcs : st ≠ c := fun e => by rw [e, upd_same] at nst; cases nst
      refine q st c _ ((new_same nc _).trans (new_same nst _)) ((new_same nc _).free nst) nc ⟨⟨z + 1, upd_same⟩, ⟨ms, ?_, ?_⟩⟩
      · rw [hm, List.length_map]; exact hlen
      · rw [upd_ne hcs.symm]; exact upd_same
theorem scDraw : FnScope ["state", "many", "cells", "value", "mixed"] ["state", "many"] (defScope sDraw) := ⟨rfl, rfl, rfl, by decide +kernel, rfl, by decide +kernel, by decide +kernel⟩
theorem ok_draw {f : Addr} {fd : FuncData} (F : Fun K "_law_draw" "_law_draw" sDraw f fd) (T : Txt mg) : FnOk P w K mg base CX0 1 f fd ["state", "many"] spDraw := by
  refine F.ok scDraw (fun vs H Q E h => ?_) (fun cdv A outer s H vs Q E hr h => ?_)
  · obtain ⟨st, c, many, rfl, _⟩ := h
    rfl
  obtain ⟨st, c, many, rfl, S, hm0, hm1, q⟩ := h
  have hne := S.ne
  refine ⟨_, pss_cons (ps_set (i := 2) scDraw.nd rfl (Or.inl rfl) (pe_ix ix_list (pv 0) pe_int (fun _ _ => rfl)))
    (pss_cons (ps_while PassesOwn.never (PW.pt (pw_and (pt_cmpR op_gt (pe_callB call_len_seq (by rfl) T.len PySem.boot_len (pa_cons (pv 2) pa_nil)) pe_int (nomark _)) (pw_and1 (pt_cmpR op_eq (pe_ix ix_list (pv 2) pe_int (fun _ _ => rfl)) pe_int (nomark _)))))
      (pss_one (ps_expr (pe_bm PySem.F.plainAttrs_list PySem.F.slot_list_pop PySem.F.type_list_pop mt_popAt (pv 2) (pa_cons pe_int pa_nil)))))
    (pss_cons (ps_if (pt_cmpR op_gt (pe_callB call_len_seq (by rfl) T.len PySem.boot_len (pa_cons (pv 2) pa_nil)) pe_int (nomark _))
      (pss_cons (ps_set (i := 3) scDraw.nd rfl (Or.inl rfl) (pe_ix ix_list (pv 2) pe_int (fun _ _ => rfl)))
      (pss_cons (ps_asg (pe_op op_fdiv (pv 3) (pv 1)) (pg_sub (pv 2) pe_int set_list))
      (pss_one (ps_ret (pe_op op_mod (pe_callTy call_int1 (by rfl) T.int PyProof.Rows.boot_int (pa_cons (pv 3) pa_nil)) (pv 1)))))) pss_nil)
    (pss_cons (ps_set (i := 4) scDraw.nd rfl (Or.inl rfl) (pe_op op_mod (pe_callTy call_int1 (by rfl) T.int PyProof.Rows.boot_int (pa_cons (pe_op op_add (pe_op op_mul (pe_ix ix_list (pv 0) pe_int (fun _ _ => rfl)) pe_int) pe_int) pa_nil)) pe_int))
    (pss_cons (ps_asg (pv 4) (pg_sub (pv 0) pe_int set_list))
    (pss_one (ps_ret (pe_op op_mod (pe_callTy call_int1 (by rfl) T.int PyProof.Rows.boot_int (pa_cons (pe_op op_fdiv (pv 4) pe_int) pa_nil)) (pv 1)))))))), ?_⟩
  obtain ⟨⟨m, hst⟩, ⟨ns0, hl0, hc0⟩⟩ := S
  refine ⟨_, rfl, st, _, _, _, rfl, rfl, SqL.of hst, at_of (j := 0) rfl rfl, ?_⟩
  refine ⟨fun n σ H2 => ∃ ns : List Int, n = ns.length ∧ ns.length ≤ 63 ∧ σ = [some (.ref st), some (.int many), some (.ref c), none, none] ∧ H2 st = some (.lst [.ref c, .int m]) ∧ H2 c = some (.lst (ns.map V.int)) ∧ But H H2 st c,
    ⟨_, ns0, rfl, hl0, rfl, hst, hc0, But.refl _ _ _⟩, ?_⟩
  rintro n σ H2 ⟨ns, rfl, hl, rfl, hst2, hc2, hb⟩
  refine ⟨_, rfl, c, _, rfl, .inl (SqL.of hc2), _, _, rfl, rfl, _, rfl, ?_⟩
  -- behind the loop
  have rest : ∀ ns : List Int, ns.length ≤ 63 → H2 c = some (.lst (ns.map V.int)) → _ := fun ns hl hc2 => trivial
  cases ns with
  | nil =>
    refine iteF (iteF ?_)
    refine ⟨_, rfl, c, _, rfl, .inl (SqL.of hc2), _, _, rfl, rfl, _, rfl, iteF ?_⟩
    refine ⟨_, rfl, st, _, _, _, rfl, rfl, SqL.of hst2, at_of (j := 1) rfl rfl, _, _, rfl, rfl, .inr ⟨by decide, by decide⟩, _, _, rfl, rfl, .inl ⟨_, rfl, _, _, rfl, rfl, (by show (0 : Int) < 2147483647; decide), ?_⟩⟩
    refine ⟨_, rfl, _, rfl, st, _, _, 1, rfl, rfl, hst2, rfl, ?_⟩
    refine ⟨_, rfl, _, _, rfl, rfl, ⟨by decide, by decide⟩, .inl ⟨_, rfl, _, rfl, _, _, rfl, rfl, hm0, ?_⟩⟩
    refine q _ _ (Int.emod_nonneg _ (by omega)) (Int.emod_lt_of_pos _ hm0) ⟨⟨_, upd_same⟩, ⟨[], by decide, ?_⟩⟩ ?_
    · rw [upd_ne hne.symm]; exact hc2
    · intro b o e h1 h2
      rw [upd_ne h1]
      exact hb b o e h1 h2
  | cons n ns =>
    have hpos : decide ((0 : Int) < (((n :: ns).map V.int).length : Nat)) = true := decide_eq_true (by rw [List.length_map, List.length_cons]; omega)
    rw [hpos]
    refine iteT ⟨_, rfl, c, _, _, _, rfl, rfl, SqL.of hc2, at_of (j := 0) rfl rfl, rfl, _, rfl, ite2 (fun z => ?_) (fun z => ?_)⟩
    · -- cells.pop(0)
      refine ⟨fun σ' H' => ∃ m', m' < (n :: ns).length ∧ ∃ ns' : List Int, m' = ns'.length ∧ ns'.length ≤ 63 ∧ σ' = [some (.ref st), some (.int many), some (.ref c), none, none] ∧ H' st = some (.lst [.ref c, .int m]) ∧ H' c = some (.lst (ns'.map V.int)) ∧ But H H' st c,
        fun σ' H' h => h, ?_⟩
      refine ⟨_, rfl, .inl ⟨rfl, _, SqL.of hc2⟩, c, _, _, 0, _, rfl, rfl, hc2, by decide, by decide, by simp [seqIndex?], rfl, ?_⟩
      refine ⟨ns.length, by simp, ns, rfl, by simp at hl; omega, rfl, ?_, ?_, ?_⟩
      · rw [upd_ne hne]; exact hst2
      · exact upd_same
      · intro b o e h1 h2
        rw [upd_ne h2]
        exact hb b o e h1 h2
    · refine ⟨_, rfl, c, _, rfl, .inl (SqL.of hc2), _, _, rfl, rfl, _, rfl, ?_⟩
      rw [hpos]
      refine iteT ⟨_, rfl, c, _, _, _, rfl, rfl, SqL.of hc2, at_of (j := 0) rfl rfl, ?_⟩
      refine ⟨_, rfl, _, rfl, _, _, rfl, rfl, ⟨hm0, by omega⟩, _, rfl, c, _, _, 0, rfl, rfl, hc2, by simp [ixN], ?_⟩
      refine ⟨_, rfl, .inl ⟨_, rfl, _, rfl, _, _, rfl, rfl, hm0, ?_⟩⟩
      refine q _ _ (Int.emod_nonneg _ (by omega)) (Int.emod_lt_of_pos _ hm0) ⟨⟨m, ?_⟩, ⟨(n / many) :: ns, by simpa using hl, ?_⟩⟩ ?_
      · rw [upd_ne hne]; exact hst2
      · exact upd_same
      · intro b o e h1 h2
        rw [upd_ne h2]
        exact hb b o e h1 h2
end
section
variable {P : Program} {w : World} {K : PySem.W.Frag} {mg : Str → Option Value} {base : Heap}
/-! ### the counting -/
theorem scSum : FnScope ["a", "b", "total", "k"] ["a", "b"] (defScope sSum) := ⟨rfl, rfl, rfl, by decide +kernel, rfl, by decide +kernel, by decide +kernel⟩
theorem ok_sum {f : Addr} {fd : FuncData} (F : Fun K "_law_sum" "_law_sum" sSum f fd) (T : Txt mg) : FnOk P w K mg base CX0 1 f fd ["a", "b"] spSum := by
  refine F.ok scSum (fun vs H Q E h => ?_) (fun cdv A outer s H vs Q E hr h => ?_)
  · obtain ⟨a, b, rfl, _⟩ := h
    rfl
  obtain ⟨a, b, rfl, ha, ha', hb, hb', q⟩ := h
  refine ⟨_, pss_cons (ps_set (i := 2) scSum.nd rfl (Or.inl rfl) (pv 0))
    (pss_cons (ps_for PassesOwn.never rfl (pi_range1 (by rfl) T.range (pa_cons (pv 1) pa_nil)) (pg_name (i := 3) scSum.nd rfl (Or.inl rfl))
      (pss_cons (ps_set (i := 2) scSum.nd rfl (Or.inl rfl) (pe_op op_add (pv 2) pe_int))
      (pss_one (ps_if (pt_cmpR op_eq (pv 2) pe_int (nomark _)) (pss_one (ps_set (i := 2) scSum.nd rfl (Or.inl rfl) pe_int)) pss_nil))))
    (pss_one (ps_ret (pv 2)))), ?_⟩
  refine ⟨_, rfl, _, rfl, b, rfl, by omega, by omega, for_range (lo := 0) (n := b.toNat) (fun i σ H2 => ∃ v : Option V, σ = [some (.int a), some (.int b), some (.int ((a + i) % 16)), v] ∧ H2 = H)
    ⟨none, ?_, rfl⟩ ?_ ?_⟩
  · have e : (a + ((0 : Nat) : Int)) % 16 = a := by omega
    rw [e]
    rfl
  · rintro i σ H2 hi ⟨v, rfl, rfl⟩
    refine ⟨_, rfl, _, _, rfl, rfl, _, rfl, rfl, _, rfl, ite2 (fun c => ?_) (fun c => ?_)⟩
    · have c' : (a + (i : Int)) % 16 + 1 = 16 := V.int.inj (of_decide_eq_true c)
      refine ⟨some (V.int (0 + (i : Int))), ?_, rfl⟩
      have e : (a + ((i + 1 : Nat) : Int)) % 16 = 0 := by omega
      rw [e]
      rfl
    · have c' : ¬ (a + (i : Int)) % 16 + 1 = 16 := fun e => c (decide_eq_true (congrArg V.int e))
      refine ⟨some (V.int (0 + (i : Int))), ?_, rfl⟩
      have e : (a + ((i + 1 : Nat) : Int)) % 16 = (a + (i : Int)) % 16 + 1 := by omega
      rw [e]
      rfl
  · rintro σ H2 ⟨v, rfl, rfl⟩
    refine ⟨_, rfl, ?_⟩
    rw [Int.toNat_of_nonneg hb]
    exact q
theorem scDue : FnScope ["operator", "a", "b", "total", "k", "n"] ["operator", "a", "b"] (defScope sDue) := ⟨rfl, rfl, rfl, by decide +kernel, rfl, by decide +kernel, by decide +kernel⟩
theorem ok_due {f g : Addr} {fd gd : FuncData} (F : Fun K "_law_due" "_law_due" sDue f fd) (T : Txt mg) (FG : Fun K "_law_sum" "_law_sum" sSum g gd) (bG : Binds K gd ["a", "b"] []) (mG : mg "_law_sum" = some (.ref g)) : FnOk P w K mg base CX0 2 f fd ["operator", "a", "b"] spDue := by
  have G : FnOk P w K mg base CX0 1 g gd ["a", "b"] spSum := ok_sum FG T
  refine F.ok scDue (fun vs H Q E h => ?_) (fun cdv A outer s H vs Q E hr h => ?_)
  · obtain ⟨z, a, b, rfl, _⟩ := h
    rfl
  obtain ⟨z, a, b, rfl, ha, ha', hb, hb', q⟩ := h
  refine ⟨_, pss_cons (ps_if (pt_cmpR op_eq (pv 0) pe_str (nomark _)) (pss_one (ps_ret (pe_call G hr rfl mG FG.kp bG .nil pass0 (pa_cons (pv 1) (pa_cons (pv 2) pa_nil))))) pss_nil)
    (pss_cons (ps_if (pt_cmpR op_eq (pv 0) pe_str (nomark _)) (pss_one (ps_ret (pe_ix ix_list
      (pe_lc (own := [("n", 5)]) (g := gName 5) (by rfl) scDue.nd (pi_range1 (by rfl) T.range (pa_cons pe_int pa_nil)) (blkOk_by (own := [("n", 5)]) (N := ["operator", "a", "b", "total", "k", "n"]) (sc := defScope sDue) (by decide +kernel))
        (fun _ _ _ _ _ => pg_name (i := 5) scDue.nd rfl (Or.inl rfl)) (fun _ _ _ _ _ => pts_one (pt_cmpR op_eq (pe_call G hr rfl mG FG.kp bG .nil pass0 (pa_cons (pv 5) (pa_cons (pv 2) pa_nil))) (pv 1) (nomark _))) (fun _ _ _ _ _ => pv 5))
      pe_int (fun _ _ => rfl)))) pss_nil)
    (pss_cons (ps_if (pt_cmpR op_eq (pv 0) pe_str (nomark _)) (pss_cons (ps_set (i := 3) scDue.nd rfl (Or.inl rfl) pe_int)
      (pss_cons (ps_for PassesOwn.never rfl (pi_range1 (by rfl) T.range (pa_cons (pv 2) pa_nil)) (pg_name (i := 4) scDue.nd rfl (Or.inl rfl))
        (pss_one (ps_set (i := 3) scDue.nd rfl (Or.inl rfl) (pe_call G hr rfl mG FG.kp bG .nil pass0 (pa_cons (pv 3) (pa_cons (pv 1) pa_nil))))))
      (pss_one (ps_ret (pv 3))))) pss_nil)
    (pss_cons (ps_if (pt_cmpR op_eq (pv 0) pe_str (nomark _)) (pss_one (ps_ret (pe_callTy call_int1 (by rfl) T.int PyProof.Rows.boot_int (pa_cons (pe_cmpR op_eq (pv 1) (pv 2) (nomark _)) pa_nil)))) pss_nil)
    (pss_cons (ps_if (pt_cmpR op_eq (pv 0) pe_str (nomark _)) (pss_one (ps_ret (pe_callTy call_int1 (by rfl) T.int PyProof.Rows.boot_int (pa_cons (pe_cmpR op_in_seq (pv 1)
      (pe_lc (own := [("n", 5)]) (g := gName 5) (by rfl) scDue.nd (pi_range1 (by rfl) T.range (pa_cons (pv 2) pa_nil)) (blkOk_by (own := [("n", 5)]) (N := ["operator", "a", "b", "total", "k", "n"]) (sc := defScope sDue) (by decide +kernel))
        (fun _ _ _ _ _ => pg_name (i := 5) scDue.nd rfl (Or.inl rfl)) (fun _ _ _ _ _ => pts_nil) (fun _ _ _ _ _ => pv 5)) (by rfl)) pa_nil)))) pss_nil)
    (pss_cons (ps_if (pt_cmpR op_eq (pv 0) pe_str (nomark _)) (pss_one (ps_ret (pe_callTy call_int1 (by rfl) T.int PyProof.Rows.boot_int (pa_cons (pe_and (pe_cmpR op_gt (pv 1) pe_int (nomark _)) (pe_one (pe_cmpR op_gt (pv 2) pe_int (nomark _)))) pa_nil)))) pss_nil)
    (pss_one (ps_ret (pe_callTy call_int1 (by rfl) T.int PyProof.Rows.boot_int (pa_cons (pe_or (pe_cmpR op_gt (pv 1) pe_int (nomark _)) (pe_one (pe_cmpR op_gt (pv 2) pe_int (nomark _)))) pa_nil))))))))), ?_⟩
  unfold val at q
  refine ⟨_, rfl, rfl, _, rfl, ite2 (fun c => ?_) (fun c => ?_)⟩
  · rw [if_pos (of_decide_eq_true c)] at q
    exact ⟨_, rfl, _, rfl, a, b, rfl, ha, ha', hb, hb', q _ (Same.refl _)⟩
  rw [if_neg (fun e => c (decide_eq_true e))] at q
  refine ⟨_, rfl, rfl, _, rfl, ite2 (fun c => ?_) (fun c => ?_)⟩
  · rw [if_pos (of_decide_eq_true c)] at q
    refine ⟨16, rfl, by decide, by decide, fun D nD => lc_range (lo := 0) (n := 16) (fun i H3 => H3 = upd H D (.lst ((hits a b i).map V.int))) rfl ?_ ?_⟩
    · rintro i H3 hi rfl
      refine ⟨rfl, _, rfl, _, rfl, (0 + (i : Int)), b, rfl, by omega, by omega, hb, hb', ?_⟩
      refine ⟨_, rfl, rfl, _, rfl, ite2 (fun c => ?_) (fun c => ?_)⟩
      · have c' : (0 + (i : Int) + b) % 16 = a := V.int.inj (of_decide_eq_true c)
        refine ⟨_, rfl, (hits a b i).map V.int, upd_same, (by rw [List.length_map]; exact small1000 (Nat.le_trans (hits_len a b i) (by omega))), ?_⟩
        rw [upd_upd, hits_succ, if_pos (by omega), List.map_append, Int.zero_add]
        rfl
      · have c' : ¬ (0 + (i : Int) + b) % 16 = a := fun e => c (decide_eq_true (congrArg V.int e))
        rw [hits_succ, if_neg (by omega)]
    · rintro H3 rfl
      refine ⟨D, _, _, _, rfl, rfl, SqL.of upd_same, at_of (j := 0) rfl (by rw [List.getElem?_map, hits_0 ha ha' hb hb']; rfl), ?_⟩
      exact q _ (new_same nD _)
  rw [if_neg (fun e => c (decide_eq_true e))] at q
  refine ⟨_, rfl, rfl, _, rfl, ite2 (fun c => ?_) (fun c => ?_)⟩
  · rw [if_pos (of_decide_eq_true c)] at q
    refine ⟨_, rfl, b, rfl, by omega, by omega, for_range (lo := 0) (n := b.toNat) (fun i σ H2 => ∃ v v5 : Option V, σ = [some (.str z), some (.int a), some (.int b), some (.int ((a * i) % 16)), v, v5] ∧ H2 = H)
      ⟨none, none, by simp; rfl, rfl⟩ ?_ ?_⟩
    · rintro i σ H2 hi ⟨v, v5, rfl, rfl⟩
      refine ⟨_, rfl, _, rfl, _, _, rfl, Int.emod_nonneg _ (by decide), Int.emod_lt_of_pos _ (by decide), ha, ha', some (V.int (0 + (i : Int))), v5, ?_, rfl⟩
      have e : (a * ((i + 1 : Nat) : Int)) % 16 = (a * (i : Int) % 16 + a) % 16 := by
        rw [Int.natCast_add, Int.mul_add]
        omega
      rw [e]
      rfl
    · rintro σ H2 ⟨v, v5, rfl, rfl⟩
      refine ⟨_, rfl, ?_⟩
      rw [Int.toNat_of_nonneg hb]
      exact q _ (Same.refl _)
  rw [if_neg (fun e => c (decide_eq_true e))] at q
  refine ⟨_, rfl, rfl, _, rfl, ite2 (fun c => ?_) (fun c => ?_)⟩
  · rw [if_pos (of_decide_eq_true c)] at q
    refine ⟨_, rfl, _, rfl, rfl, .inr ⟨_, rfl, ?_⟩⟩
    simpa using q _ (Same.refl _)
  rw [if_neg (fun e => c (decide_eq_true e))] at q
  refine ⟨_, rfl, rfl, _, rfl, ite2 (fun c => ?_) (fun c => ?_)⟩
  · rw [if_pos (of_decide_eq_true c)] at q
    refine ⟨_, rfl, _, rfl, b, rfl, by omega, by omega, fun D nD => lc_range (lo := 0) (n := b.toNat) (fun i H3 => H3 = upd H D (.lst ((List.range i).map fun (n : Nat) => V.int (n : Int)))) rfl ?_ ?_⟩
    · rintro i H3 hi rfl
      refine ⟨rfl, yes (iteT ?_)⟩
      refine ⟨_, rfl, _, upd_same, (by rw [List.length_map, List.length_range]; exact small1000 (by omega)), ?_⟩
      rw [upd_upd, List.range_succ, List.map_append, Int.zero_add]
      rfl
    · rintro H3 rfl
      refine ⟨D, _, rfl, .inl (SqL.of upd_same), rfl, ?_, .inr ⟨_, rfl, ?_⟩⟩
      · rw [List.all_map, List.all_eq_true]
        intro x _
        rfl
      · show Q (V.int (if inV _ _ = true then 1 else 0)) _
        rw [in_range ha hb]
        simpa using q _ (new_same nD _)
  rw [if_neg (fun e => c (decide_eq_true e))] at q
  have q := q _ (Same.refl _)
  refine ⟨_, rfl, rfl, _, rfl, ite2 (fun c => ?_) (fun c => ?_)⟩
  · rw [if_pos (of_decide_eq_true c)] at q
    refine ⟨_, rfl, _, _, rfl, rfl, _, rfl, ite2 (fun c1 => ?_) (fun c1 => ?_)⟩
    · have c1' : a ≠ 0 := by have := of_decide_eq_true c1; omega
      refine ⟨_, rfl, _, _, rfl, rfl, .inr ⟨_, rfl, ?_⟩⟩
      have e : (0 < b) ↔ b ≠ 0 := by omega
      simpa [c1', e] using q
    · have c1' : a = 0 := by have : ¬ (0 < a) := fun h => c1 (decide_eq_true h); omega
      refine .inr ⟨_, rfl, ?_⟩
      simpa [c1'] using q
  rw [if_neg (fun e => c (decide_eq_true e))] at q
  refine ⟨_, rfl, _, _, rfl, rfl, _, rfl, ite2 (fun c1 => ?_) (fun c1 => ?_)⟩
  · have c1' : a ≠ 0 := by have := of_decide_eq_true c1; omega
    refine .inr ⟨_, rfl, ?_⟩
    simpa [c1'] using q
  · have c1' : a = 0 := by have : ¬ (0 < a) := fun h => c1 (decide_eq_true h); omega
    refine ⟨_, rfl, _, _, rfl, rfl, .inr ⟨_, rfl, ?_⟩⟩
    have e : (0 < b) ↔ b ≠ 0 := by omega
    simpa [c1', e] using q
end
theorem same_of {H H2 H3 : Hp} {st c : Addr} (s : Same H H2) (b : But H2 H3 st c) (n1 : H st = none) (n2 : H c = none) : Same H H3 := fun x o e =>
  b x o (s x o e) (ne_of_none e n1) (ne_of_none e n2)
/-- one of three by a drawn place -/
theorem pick3 {r1 a r2 : Int} (h1 : 0 ≤ r1) (h1' : r1 < 16) (ha : 0 ≤ a) (ha' : a < 16) (h2 : 0 ≤ r2) (h2' : r2 < 3) : ∃ b : Int, atI [V.int r1, V.int a, V.int 0] r2 = some (.int b) ∧ 0 ≤ b ∧ b < 16 := by
  have : r2 = 0 ∨ r2 = 1 ∨ r2 = 2 := by omega
  rcases this with rfl | rfl | rfl
  · exact ⟨r1, rfl, h1, h1'⟩
  · exact ⟨a, rfl, ha, ha'⟩
  · exact ⟨0, rfl, by decide, by decide⟩
theorem cut_int {ns : List Int} {lo hi : Option Int} {i : Nat} {x : V} (h : (cutV (ns.map V.int) lo hi)[i]? = some x) : ∃ n, x = V.int n := by
  have m := List.mem_of_getElem? h
  unfold cutV at m
  have m2 := List.mem_of_mem_drop (List.mem_of_mem_take m)
  obtain ⟨n, _, e⟩ := List.mem_map.mp m2
  exact ⟨n, e.symm⟩
theorem str_at {zs : List Str} {i : Nat} {x : V} (h : (zs.map V.str)[i]? = some x) : ∃ z, x = V.str z := by
  obtain ⟨n, _, e⟩ := List.mem_map.mp (List.mem_of_getElem? h)
  exact ⟨n, e.symm⟩
def ops : List Str := ["+", "-", "*", "==", "<", "and", "or"]
section
variable {P : Program} {w : World} {K : PySem.W.Frag} {mg : Str → Option Value} {base : Heap}
theorem scLaw : FnScope ["script", "state", "k", "a", "b", "operator", "told", "cell"] ["script"] (defScope sLaw) := ⟨rfl, rfl, rfl, by decide +kernel, rfl, by decide +kernel, by decide +kernel⟩
theorem ok_law {f f1 f2 f3 f4 f5 f6 : Addr} {fd d1 d2 d3 d4 d5 d6 : FuncData} (F : Fun K "law" "law" sLaw f fd) (T : Txt mg)
    (F1 : Fun K "wrap" "wrap" sWrap f1 d1) (b1 : Binds K d1 ["n"] []) (m1 : mg "wrap" = some (.ref f1))
    (F2 : Fun K "combine" "combine" sComb f2 d2) (b2 : Binds K d2 ["operator", "a", "b"] []) (m2 : mg "combine" = some (.ref f2))
    (F3 : Fun K "_law_state" "_law_state" sState f3 d3) (b3 : Binds K d3 ["script"] []) (m3 : mg "_law_state" = some (.ref f3))
    (F4 : Fun K "_law_draw" "_law_draw" sDraw f4 d4) (b4 : Binds K d4 ["state", "many"] []) (m4 : mg "_law_draw" = some (.ref f4))
    (F5 : Fun K "_law_sum" "_law_sum" sSum f5 d5) (b5 : Binds K d5 ["a", "b"] []) (m5 : mg "_law_sum" = some (.ref f5))
    (F6 : Fun K "_law_due" "_law_due" sDue f6 d6) (b6 : Binds K d6 ["operator", "a", "b"] []) (m6 : mg "_law_due" = some (.ref f6)) :
    FnOk P w K mg base CX0 3 f fd ["script"] (spLaw K) := by
  have G1 : FnOk P w K mg base CX0 1 f1 d1 ["n"] spWrap := ok_wrap F1 T
  have G2 : FnOk P w K mg base CX0 2 f2 d2 ["operator", "a", "b"] spComb := ok_comb F2 T F1 b1 m1
  have G3 : FnOk P w K mg base CX0 1 f3 d3 ["script"] (spState K) := ok_state F3 T
  have G4 : FnOk P w K mg base CX0 1 f4 d4 ["state", "many"] spDraw := ok_draw F4 T
  have G6 : FnOk P w K mg base CX0 2 f6 d6 ["operator", "a", "b"] spDue := ok_due F6 T F5 b5 m5
  refine F.ok scLaw (fun vs H Q E h => ?_) (fun cdv A outer s H vs Q E hr h => ?_)
  · obtain ⟨a, ns, rfl, _⟩ := h
    rfl
  obtain ⟨a, ns, rfl, hS, hlen, hO, q⟩ := h
  have hr1 : Room 1 _ := hr.mono (by decide)
  refine ⟨_, pss_cons (ps_set (i := 1) scLaw.nd rfl (Or.inl rfl) (pe_call G3 hr1 rfl m3 F3.kp b3 .nil pass0 (pa_cons (pv 0) pa_nil)))
    (pss_cons (ps_for PassesOwn.never rfl (pi_range1 (by rfl) T.range (pa_cons pe_int pa_nil)) (pg_name (i := 2) scLaw.nd rfl (Or.inl rfl))
      (pss_cons (ps_set (i := 3) scLaw.nd rfl (Or.inl rfl) (pe_call G4 hr1 rfl m4 F4.kp b4 .nil pass0 (pa_cons (pv 1) (pa_cons pe_int pa_nil))))
      (pss_cons (ps_set (i := 4) scLaw.nd rfl (Or.inl rfl) (pe_ix ix_list (pe_lst (pa_cons (pe_call G4 hr1 rfl m4 F4.kp b4 .nil pass0 (pa_cons (pv 1) (pa_cons pe_int pa_nil))) (pa_cons (pv 3) (pa_cons pe_int pa_nil))))
          (pe_call G4 hr1 rfl m4 F4.kp b4 .nil pass0 (pa_cons (pv 1) (pa_cons pe_int pa_nil))) (fun _ _ => rfl)))
      (pss_one (ps_for PassesOwn.never rfl (pi_list (pe_lst (pa_cons pe_str (pa_cons pe_str (pa_cons pe_str (pa_cons pe_str (pa_cons pe_str (pa_cons pe_str (pa_cons pe_str pa_nil))))))))) (pg_name (i := 5) scLaw.nd rfl (Or.inl rfl))
        (pss_cons (ps_set (i := 6) scLaw.nd rfl (Or.inl rfl) (pe_call G2 hr rfl m2 F2.kp b2 .nil pass0 (pa_cons (pv 5) (pa_cons (pv 3) (pa_cons (pv 4) pa_nil)))))
        (pss_one (ps_if (PW.pt (pw_or (pt_not (pt_val (pe_callB call_isi (by rfl) T.isi PyProof.Rows.boot_isinstance (pa_cons (pv 6) (pa_cons (pe_bltn (v := .ty "int") (by rfl) T.int PyProof.Rows.boot_int rfl) pa_nil)))))
            (pw_or (pt_val (pe_callB call_isi (by rfl) T.isi PyProof.Rows.boot_isinstance (pa_cons (pv 6) (pa_cons (pe_bltn (v := .ty "bool") (by rfl) T.bool PyProof.Rows.boot_bool rfl) pa_nil))))
              (pw_or1 (pt_cmpR op_ne (pv 6) (pe_call G6 hr rfl m6 F6.kp b6 .nil pass0 (pa_cons (pv 5) (pa_cons (pv 3) (pa_cons (pv 4) pa_nil)))) (nomark _))))))
          (pss_one (ps_ret pe_bl)) pss_nil))))))))
    (pss_cons (ps_for PassesOwn.never rfl (pi_list (pe_slice sl_list (pv 0) po_none (po_some pe_int))) (pg_name (i := 7) scLaw.nd rfl (Or.inl rfl))
      (pss_cons (ps_set (i := 6) scLaw.nd rfl (Or.inl rfl) (pe_call G1 hr1 rfl m1 F1.kp b1 .nil pass0 (pa_cons (pv 7) pa_nil)))
      (pss_one (ps_if (PW.pt (pw_or (pt_val (pe_callB call_isi (by rfl) T.isi PyProof.Rows.boot_isinstance (pa_cons (pv 6) (pa_cons (pe_bltn (v := .ty "bool") (by rfl) T.bool PyProof.Rows.boot_bool rfl) pa_nil))))
          (pw_or (pt_cmpR my_notin_rng (pv 6) (pe_callTy my_range1 (by rfl) T.range PyProof.Rows.boot_range (pa_cons pe_int pa_nil)) (by rfl))
            (pw_or1 (pt_cmpR op_ne (pe_op op_mul (pe_op op_fdiv (pe_op op_sub (pv 7) (pv 6)) pe_int) pe_int) (pe_op op_sub (pv 7) (pv 6)) (nomark _))))))
        (pss_one (ps_ret pe_bl)) pss_nil))))
    (pss_one (ps_ret pe_bl)))), ?_⟩
  refine ⟨_, rfl, a, ns, rfl, hS, hlen, fun st c H1 s1 nst nc S1 => ?_⟩
  refine ⟨6, rfl, by decide, by decide, for_range (lo := 0) (n := 6) (fun i σ H2 => ∃ v2 v3 v4 v5 v6 : Option V, σ = [some (.ref a), some (.ref st), v2, v3, v4, v5, v6, none] ∧ Same H H2 ∧ StAt H2 st c)
    ⟨none, none, none, none, none, rfl, s1, S1⟩ ?_ ?_⟩
  · rintro i σ H2 hi ⟨v2, v3, v4, v5, v6, rfl, s2, S2⟩
    refine ⟨_, rfl, st, c, 16, rfl, S2, by decide, by decide, fun ra H3 ha ha' S3 B3 => ?_⟩
    have s3 := same_of s2 B3 nst nc
    refine ⟨_, rfl, st, c, 16, rfl, S3, by decide, by decide, fun r1 H4 h1 h1' S4 B4 => ?_⟩
    have s4 := same_of s3 B4 nst nc
    refine ⟨_, rfl, (by show 3 ≤ sizeLine; decide), fun p np => ?_⟩
    have S5 : StAt (upd H4 p (.lst [.int r1, .int ra, .int 0])) st c := S4.same (new_same np _)
    have s5 : Same H (upd H4 p (.lst [.int r1, .int ra, .int 0])) := s4.trans (new_same np _)
    refine ⟨_, rfl, st, c, 3, rfl, S5, by decide, by decide, fun r2 H6 h2 h2' S6 B6 => ?_⟩
    have s6 := same_of s5 B6 nst nc
    have hp : H6 p = some (.lst [.int r1, .int ra, .int 0]) := by
      refine B6 p _ upd_same (fun e => ?_) (fun e => ?_)
      · obtain ⟨⟨m, h⟩, _⟩ := S4
        rw [← e, np] at h
        cases h
      · obtain ⟨_, ⟨ms, _, h⟩⟩ := S4
        rw [← e, np] at h
        cases h
    obtain ⟨rb, hat, hb, hb'⟩ := pick3 h1 h1' ha ha' h2 h2'
    refine ⟨p, _, _, _, rfl, rfl, SqL.of hp, hat, ?_⟩
    refine ⟨(by show 7 ≤ sizeLine; decide), fun o no => ?_⟩
    refine ⟨o, rfl, ⟨_, SqL.of upd_same⟩, for_list (K := K) (a := o) (xs := ops.map V.str) (fun j σ H7 => ∃ v5 v6 : Option V, σ = [some (.ref a), some (.ref st), some (.int (0 + (i : Int))), some (.int ra), some (.int rb), v5, v6, none] ∧ Same (upd H6 o (.lst (ops.map V.str))) H7)
      ⟨v5, v6, rfl, Same.refl _⟩ (fun j σ H7 _ ⟨_, _, _, s7⟩ => SqL.of (s7 _ _ upd_same)) ?_ ?_⟩
    · rintro j y σ H7 hj ⟨w5, w6, rfl, s7⟩
      obtain ⟨z, rfl⟩ := str_at hj
      refine ⟨_, rfl, _, rfl, _, rfl, z, ra, rb, rfl, ha, ha', hb, hb', ?_⟩
      refine ⟨_, rfl, V.int (val z ra rb), .ty "int", .type "int", .type "int", true, rfl, .ty "int", .base (.int _), kit_ty (by decide +kernel), true, rfl, iteF ?_⟩
      refine ⟨_, rfl, V.int (val z ra rb), .ty "bool", .type "int", .type "bool", false, rfl, .ty "bool", .base (.int _), kit_ty (by decide +kernel), false, rfl, iteF ?_⟩
      refine ⟨_, rfl, _, rfl, _, rfl, _, rfl, z, ra, rb, rfl, ha, ha', hb, hb', fun H8 s8 => ?_⟩
      refine ⟨rfl, _, rfl, iteNS rfl ?_⟩
      exact ⟨_, _, rfl, s7.trans s8⟩
    · rintro σ H7 ⟨w5, w6, rfl, s7⟩
      have s67 : Same H6 H7 := (new_same no _).trans s7
      exact ⟨_, _, _, _, _, rfl, s6.trans s67, S6.same s67⟩
  · rintro σ H2 ⟨v2, v3, v4, v5, v6, rfl, s2, S2⟩
    refine ⟨_, rfl, 20, rfl, a, _, rfl, s2.seq hS, fun p np => ?_⟩
    refine ⟨p, rfl, ⟨_, SqL.of upd_same⟩, for_list (K := K) (a := p) (xs := cutV (ns.map V.int) none (some 20)) (fun j σ H3 => ∃ v6 v7 : Option V, σ = [some (.ref a), some (.ref st), v2, v3, v4, v5, v6, v7] ∧ Same (upd H2 p (.lst (cutV (ns.map V.int) none (some 20)))) H3)
      ⟨v6, none, rfl, Same.refl _⟩ (fun j σ H7 _ ⟨_, _, _, s7⟩ => SqL.of (s7 _ _ upd_same)) ?_ ?_⟩
    · rintro j y σ H3 hj ⟨w6, w7, rfl, s3⟩
      obtain ⟨z, rfl⟩ := cut_int hj
      refine ⟨_, rfl, z, rfl, ?_⟩
      refine ⟨_, rfl, V.int (z % 16), .ty "bool", .type "int", .type "bool", false, rfl, .ty "bool", .base (.int _), kit_ty (by decide +kernel), false, rfl, iteF ?_⟩
      refine ⟨_, rfl, 16, rfl, fun o no => ⟨_, o, _, _, rfl, rfl, upd_same, _, rfl, iteNS ⟨Int.emod_nonneg _ (by decide), Int.emod_lt_of_pos _ (by decide)⟩ ?_⟩⟩
      refine ⟨_, rfl, _, rfl, _, _, rfl, rfl, _, _, rfl, rfl, ⟨by decide, by decide⟩, _, _, rfl, rfl, .inr ⟨by decide, by decide⟩, _, rfl, _, rfl, _, _, rfl, rfl, rfl, _, rfl, iteNS (congrArg V.int (by omega)) ?_⟩
      exact ⟨_, _, rfl, s3.trans (new_same no _)⟩
    · rintro σ H3 ⟨w6, w7, rfl, s3⟩
      exact q _
end
/-! ### what the top has written -/
theorem all_mk {l : PySem.W.OpenLaw} {w : World} {K : PySem.W.Frag} {h : Heap} {mg : Str → Option Value} {fa f1 f2 f3 f4 f5 f6 f7 : Addr} (X : K.In h) (G : h.Ns mainGlobals mg) (hfa : mg "law" = some (.ref fa))
    {od1 an1 od2 an2 od3 an3 od4 an4 od5 an5 od6 an6 od7 an7 : Option Addr} {sl1 sl2 sl3 sl4 sl5 sl6 sl7 : Array (Option Value)}
    {oc1 kV1 dc1 pm1 cd1 ct1 oc2 kV2 dc2 pm2 cd2 ct2 oc3 kV3 dc3 pm3 cd3 ct3 oc4 kV4 dc4 pm4 cd4 ct4 oc5 kV5 dc5 pm5 cd5 ct5 oc6 kV6 dc6 pm6 cd6 ct6 oc7 kV7 dc7 pm7 cd7 ct7 : Value} {tw : Tok}
    (a1 : PySem.W.nsIn K mainGlobals "wrap" = some (some (.ref f1))) (l1 : K.lookup f1 = some ⟨oc1, od1, .func (PySem.W.fnOf "wrap" "wrap" (defArgs sWrap) (defBody sWrap) (defScope sWrap) .none kV1 dc1 pm1 an1 cd1 ct1), sl1⟩) (c1 : PySem.W.codeIn K cd1 "wrap" = true) (k1 : PySem.W.keepIn K (.ref f1) = true)
    (a2 : PySem.W.nsIn K mainGlobals "combine" = some (some (.ref f2))) (l2 : K.lookup f2 = some ⟨oc2, od2, .func (PySem.W.fnOf "combine" "combine" (defArgs sComb) (defBody sComb) (defScope sComb) .none kV2 dc2 pm2 an2 cd2 ct2), sl2⟩) (c2 : PySem.W.codeIn K cd2 "combine" = true) (k2 : PySem.W.keepIn K (.ref f2) = true)
    (a3 : PySem.W.nsIn K mainGlobals "_law_state" = some (some (.ref f3))) (l3 : K.lookup f3 = some ⟨oc3, od3, .func (PySem.W.fnOf "_law_state" "_law_state" (defArgs sState) (defBody sState) (defScope sState) .none kV3 dc3 pm3 an3 cd3 ct3), sl3⟩) (c3 : PySem.W.codeIn K cd3 "_law_state" = true) (k3 : PySem.W.keepIn K (.ref f3) = true)
    (a4 : PySem.W.nsIn K mainGlobals "_law_draw" = some (some (.ref f4))) (l4 : K.lookup f4 = some ⟨oc4, od4, .func (PySem.W.fnOf "_law_draw" "_law_draw" (defArgs sDraw) (defBody sDraw) (defScope sDraw) .none kV4 dc4 pm4 an4 cd4 ct4), sl4⟩) (c4 : PySem.W.codeIn K cd4 "_law_draw" = true) (k4 : PySem.W.keepIn K (.ref f4) = true)
    (a5 : PySem.W.nsIn K mainGlobals "_law_sum" = some (some (.ref f5))) (l5 : K.lookup f5 = some ⟨oc5, od5, .func (PySem.W.fnOf "_law_sum" "_law_sum" (defArgs sSum) (defBody sSum) (defScope sSum) .none kV5 dc5 pm5 an5 cd5 ct5), sl5⟩) (c5 : PySem.W.codeIn K cd5 "_law_sum" = true) (k5 : PySem.W.keepIn K (.ref f5) = true)
    (a6 : PySem.W.nsIn K mainGlobals "_law_due" = some (some (.ref f6))) (l6 : K.lookup f6 = some ⟨oc6, od6, .func (PySem.W.fnOf "_law_due" "_law_due" (defArgs sDue) (defBody sDue) (defScope sDue) .none kV6 dc6 pm6 an6 cd6 ct6), sl6⟩) (c6 : PySem.W.codeIn K cd6 "_law_due" = true) (k6 : PySem.W.keepIn K (.ref f6) = true)
    (a7 : PySem.W.nsIn K mainGlobals "law" = some (some (.ref f7))) (l7 : K.lookup f7 = some ⟨oc7, od7, .func (PySem.W.fnOf "law" "law" (defArgs sLaw) (defBody sLaw) (defScope sLaw) .none kV7 dc7 pm7 an7 cd7 ct7), sl7⟩) (c7 : PySem.W.codeIn K cd7 "law" = true) (k7 : PySem.W.keepIn K (.ref f7) = true)
    (z1 : PySem.W.nsIn K mainGlobals "len" = some none) (z2 : PySem.W.nsIn K mainGlobals "int" = some none) (z3 : PySem.W.nsIn K mainGlobals "abs" = some none) (z4 : PySem.W.nsIn K mainGlobals "range" = some none)
    (z5 : PySem.W.nsIn K mainGlobals "isinstance" = some none) (z6 : PySem.W.nsIn K mainGlobals "bool" = some none) (z7 : PySem.W.nsIn K mainGlobals "WORDS" = some (some (.int 16 tw))) :
    ∃ fd : FuncData, (∀ (s : Shared) (v : Value), BindsTo s fd ⟨[v], []⟩ [("script", v)]) ∧ ∀ base : Heap, K.In base → base.Ns mainGlobals mg → FnOk l.prog w K mg base CX0 3 fa fd ["script"] (spLaw K) := by
  have e := hfa.symm.trans (PySem.W.mg_of X G a7)
  cases e
  have T : Txt mg := ⟨PySem.W.mg_none_of X G z1, PySem.W.mg_none_of X G z2, PySem.W.mg_none_of X G z3, PySem.W.mg_none_of X G z4, PySem.W.mg_none_of X G z5, PySem.W.mg_none_of X G z6, ⟨tw, PySem.W.mg_of X G z7⟩⟩
  have F1 := fun_mk (st := sWrap) l1 c1 k1
  have F2 := fun_mk (st := sComb) l2 c2 k2
  have F3 := fun_mk (st := sState) l3 c3 k3
  have F4 := fun_mk (st := sDraw) l4 c4 k4
  have F5 := fun_mk (st := sSum) l5 c5 k5
  have F6 := fun_mk (st := sDue) l6 c6 k6
  have F7 := fun_mk (st := sLaw) l7 c7 k7
  have b1 := F1.binds (ps := ["n"]) fun _ _ _ _ _ _ us hl => match us, hl with | [_], _ => rfl
  have b2 := F2.binds (ps := ["operator", "a", "b"]) fun _ _ _ _ _ _ us hl => match us, hl with | [_, _, _], _ => rfl
  have b3 := F3.binds (ps := ["script"]) fun _ _ _ _ _ _ us hl => match us, hl with | [_], _ => rfl
  have b4 := F4.binds (ps := ["state", "many"]) fun _ _ _ _ _ _ us hl => match us, hl with | [_, _], _ => rfl
  have b5 := F5.binds (ps := ["a", "b"]) fun _ _ _ _ _ _ us hl => match us, hl with | [_, _], _ => rfl
  have b6 := F6.binds (ps := ["operator", "a", "b"]) fun _ _ _ _ _ _ us hl => match us, hl with | [_, _, _], _ => rfl
  refine ⟨PySem.W.fnOf "law" "law" (defArgs sLaw) (defBody sLaw) (defScope sLaw) .none kV7 dc7 pm7 an7 cd7 ct7, fun s v => .of_eq rfl, fun base _ _ => ?_⟩
  exact ok_law F7 T F1 b1 (PySem.W.mg_of X G a1) F2 b2 (PySem.W.mg_of X G a2) F3 b3 (PySem.W.mg_of X G a3) F4 b4 (PySem.W.mg_of X G a4) F5 b5 (PySem.W.mg_of X G a5) F6 b6 (PySem.W.mg_of X G a6)
theorem walk {l : PySem.W.OpenLaw} {q : Program} {loose : List Str} {XP : (Str → Option Value) → Heap → Prop} {YP : World → Heap → Prop} {d : DefRec} {K : Params → PySem.W.Frag} (hn : l.most = some 63) (hdf : d.params.defaults = [])
    (hY : ∀ (w : World) (h : Heap), YP w h → (K w.params).In h)
    (F : ∀ (w : World) (mg : Str → Option Value) (fa : Addr) (h : Heap), (K w.params).In h → h.Ns mainGlobals mg → mg d.name = some (.ref fa) →
      ∃ fd : FuncData, (∀ (s : Shared) (u : Value), BindsTo s fd ⟨[u], []⟩ [("script", u)]) ∧ ∀ base : Heap, (K w.params).In base → base.Ns mainGlobals mg → FnOk l.prog w (K w.params) mg base CX0 3 fa fd ["script"] (spLaw (K w.params))) :
    PySem.W.WalkO q loose XP YP l.row.toRowW d [] (fun f vs => PySem.call f vs) :=
  L2.walk_of (n := 63) (k := 3) (x := "script") (CX := fun _ => CX0) (sp := fun w => spLaw (K w.params)) hn (by decide) hdf ⟨rfl, by decide, by decide⟩ hY F (fun _ _ a ns hl hO hS => ⟨a, ns, rfl, hS, hl, hO, fun _ => rfl⟩) fun _ _ _ _ _ z => z
end S1
open PySem PySem.W PyProof.Rows
set_option maxRecDepth 100000 in
set_option maxHeartbeats 0 in
theorem PySem.Challenge.cw_salvor_k01_words_holds : PySem.Challenge.rw_salvor_k01_words.Holds := by
  w_on; o_law; k_head; (case hw => w_witness2)
  k_fill
  refine S1.walk (l := PySem.Challenge.rw_salvor_k01_words) rfl rfl (fun w h Y => PySem.W.kIn_of Y) ?F
  case F =>
    intro w mg fa h KX G hmg
    refine' S1.all_mk KX G hmg ?a1 ?l1 ?c1 ?k1 ?a2 ?l2 ?c2 ?k2 ?a3 ?l3 ?c3 ?k3 ?a4 ?l4 ?c4 ?k4 ?a5 ?l5 ?c5 ?k5 ?a6 ?l6 ?c6 ?k6 ?a7 ?l7 ?c7 ?k7 ?z1 ?z2 ?z3 ?z4 ?z5 ?z6 ?z7
    (case a1 => k_is); (case l1 => k_is); (case c1 => k_is); (case k1 => k_is)
    (case a2 => k_is); (case l2 => k_is); (case c2 => k_is); (case k2 => k_is)
    (case a3 => k_is); (case l3 => k_is); (case c3 => k_is); (case k3 => k_is)
    (case a4 => k_is); (case l4 => k_is); (case c4 => k_is); (case k4 => k_is)
    (case a5 => k_is); (case l5 => k_is); (case c5 => k_is); (case k5 => k_is)
    (case a6 => k_is); (case l6 => k_is); (case c6 => k_is); (case k6 => k_is)
    (case a7 => k_is); (case l7 => k_is); (case c7 => k_is); (case k7 => k_is)
    (case z1 => k_is); (case z2 => k_is); (case z3 => k_is); (case z4 => k_is); (case z5 => k_is); (case z6 => k_is); (case z7 => k_is)
