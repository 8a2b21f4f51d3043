import PyProof.Rows.All
import Wide.All
import OpenK.AllK
import Wide.FinOn
import HandS.ForMost
import HandS.IsInst
import HandS.Conv
import HandS.Codes
import HandS.Flow
import HandS.NoneIn
import HandS.TryOnly
import HandS.TupMul
import HandS.TupAny
import HandS.SetKeys
import HandS.Walk
import HandS.Zip
import HandS.More
import HandS.Deep
import HandS.GenList
import HandS.GenYield
import KE.KDictKeyed
import KE.GoesEnum
import KE.KeyNested
import PySem.Challenge.RW_salvor_k05_images
set_option Elab.async false
set_option maxRecDepth 100000
set_option maxHeartbeats 4000000
set_option linter.unusedVariables false
namespace SG
open PySem L2
open Sem (wp)
/-! ### generators that sleep are not touched by what does not know them -/
/-- the same to look at, but it cannot be woken -/
def blankF : Frame → Frame
  | .ret _ h g l c p kp => .ret (fun _ => .unsupported "") h g l c p kp
  | .gen g _ l c p => .gen g (fun _ => .unsupported "") l c p
def stk : GenState → GenState
  | .suspended _ _ c p fs cl => .suspended (fun _ => .unsupported "") [] c p (fs.map blankF) cl
  | x => x
def sleeps : GenState → Bool
  | .suspended .. => true
  | _ => false
/-- its frames hold no generator's frame -/
def okG : GenState → Prop
  | .suspended _ _ _ _ fs _ => splitAtGen fs = none
  | _ => True
theorem blank_wheres (fs : List Frame) : (fs.map blankF).map Frame.where_ = fs.map Frame.where_ := by
  rw [List.map_map]; congr 1; funext f; cases f <;> rfl
theorem stk_seen (x : GenState) : (stk x).seen = x.seen := by
  cases x with
  | suspended k l c p fs cl => show (_, some (_ :: (fs.map blankF).map Frame.where_)) = _; rw [blank_wheres]; rfl
  | _ => rfl
theorem stk_slp (x : GenState) : sleeps (stk x) = sleeps x := by cases x <;> rfl
theorem stk_bare (x : GenState) : (stk x).bare = x.bare := by cases x <;> rfl
/-- a sleeper of G stands at i -/
def SlpAt (G : Array GenState) (i : Nat) : Prop := ∃ y, G[i]? = some y ∧ sleeps y = true
/-- a belongs to a run that began where G stood, its sleepers put out -/
structure Put (G a : Array GenState) : Prop where
  le : G.size ≤ a.size
  slp : ∀ (i : Nat) y, G[i]? = some y → sleeps y = true → a[i]? = some (stk y)
  ok : ∀ (i : Nat) x, a[i]? = some x → SlpAt G i ∨ okG x
def mix1 (G : Array GenState) (i : Nat) (x : GenState) : GenState := match G[i]? with
  | some y => if sleeps y = true then y else x
  | none => x
/-- with its sleepers back -/
def mix (G a : Array GenState) : Array GenState := a.mapIdx fun i x => mix1 G i x
def mixS (G : Array GenState) (s : Shared) : Shared := { s with gens := mix G s.gens }
section
variable {G a : Array GenState} {i g : Nat} {x y : GenState}
theorem mix_size : (mix G a).size = a.size := by simp [mix]
theorem mix_get (i : Nat) : (mix G a)[i]? = (a[i]?).map (mix1 G i) := by simp [mix]
theorem mix1_no (h : ¬ SlpAt G i) : mix1 G i x = x := by
  unfold mix1
  cases e : G[i]? with
  | none => rfl
  | some y =>
    by_cases z : sleeps y = true
    · exact absurd ⟨y, e, z⟩ h
    · exact if_neg z
theorem mix1_yes (e : G[i]? = some y) (h : sleeps y = true) : mix1 G i x = y := by
  unfold mix1
  rw [e]
  exact if_pos h
theorem mix1_seen (h : Put G a) (e : a[i]? = some x) : (mix1 G i x).seen = x.seen := by
  by_cases z : SlpAt G i
  · obtain ⟨y, e1, z⟩ := z
    rw [mix1_yes e1 z]
    have := h.slp i y e1 z
    rw [e] at this
    cases this
    exact (stk_seen y).symm
  · rw [mix1_no z]
theorem mix_push (h : G.size ≤ a.size) : mix G (a.push x) = (mix G a).push x := by
  apply Array.ext_getElem?
  intro i
  rw [mix_get, Array.getElem?_push, Array.getElem?_push, mix_size, mix_get]
  by_cases e : i = a.size
  · rw [if_pos e, if_pos e]
    show some (mix1 G i x) = some x
    rw [mix1_no]
    rintro ⟨y, q, _⟩
    have := (Array.getElem?_eq_some_iff.mp q).1
    omega
  · rw [if_neg e, if_neg e]
theorem mix_set (h : ¬ SlpAt G g) : mix G (a.setIfInBounds g x) = (mix G a).setIfInBounds g x := by
  apply Array.ext_getElem?
  intro i
  rw [mix_get, Array.getElem?_setIfInBounds, Array.getElem?_setIfInBounds, mix_size, mix_get]
  by_cases e : g = i
  · subst e
    rw [if_pos rfl, if_pos rfl]
    by_cases l : g < a.size
    · rw [if_pos l]
      show some (mix1 G g x) = some x
      rw [mix1_no h]
    · rw [if_neg l]; rfl
  · rw [if_neg e, if_neg e]
theorem Put.push (h : Put G a) (hx : okG x) : Put G (a.push x) := by
  refine ⟨by rw [Array.size_push]; exact Nat.le_succ_of_le h.le, fun i y e z => ?_, fun i y e => ?_⟩
  · rw [Array.getElem?_push_lt (Nat.lt_of_lt_of_le (Array.getElem?_eq_some_iff.mp e).1 h.le), ← Array.getElem?_eq_getElem]
    exact h.slp i y e z
  · rw [Array.getElem?_push] at e
    by_cases q : i = a.size
    · rw [if_pos q] at e
      cases e
      exact .inr hx
    · rw [if_neg q] at e
      exact h.ok i y e
theorem Put.set (h : Put G a) (hg : ¬ SlpAt G g) (hx : okG x) : Put G (a.setIfInBounds g x) := by
  refine ⟨by rw [Array.size_setIfInBounds]; exact h.le, fun i y e z => ?_, fun i y e => ?_⟩
  · rw [Array.getElem?_setIfInBounds, if_neg (fun q => hg (by rw [q]; exact ⟨y, e, z⟩))]
    exact h.slp i y e z
  · rw [Array.getElem?_setIfInBounds] at e
    by_cases q : g = i
    · subst q
      rw [if_pos rfl] at e
      by_cases l : g < a.size
      · rw [if_pos l] at e
        cases e
        exact .inr hx
      · rw [if_neg l] at e
        cases e
    · rw [if_neg q] at e
      exact h.ok i y e
theorem Put.notSlp (h : Put G a) (e : a[i]? = some x) (hx : sleeps x = false) : ¬ SlpAt G i := by
  rintro ⟨y, q, z⟩
  have := h.slp i y q z
  rw [e] at this
  cases this
  rw [stk_slp] at hx
  rw [hx] at z; cases z
theorem mix_at (h : ¬ SlpAt G i) (e : a[i]? = some x) : (mix G a)[i]? = some x := by
  rw [mix_get, e]
  show some (mix1 G i x) = some x
  rw [mix1_no h]
end
theorem split_app : ∀ {a b : List Frame}, splitAtGen a = none → splitAtGen b = none → splitAtGen (a ++ b) = none
  | [], _, _, h => h
  | .gen .. :: _, _, h, _ => by unfold splitAtGen at h; cases h
  | .ret .. :: a, b, h, h' => by
    unfold splitAtGen at h
    show splitAtGen (_ :: (a ++ b)) = none
    unfold splitAtGen
    rw [Option.map_eq_none_iff] at h ⊢
    exact split_app h h'
theorem split_tail {k h g l c p kp} {fs : List Frame} (e : splitAtGen (.ret k h g l c p kp :: fs) = none) : splitAtGen fs = none := by
  unfold splitAtGen at e
  rwa [Option.map_eq_none_iff] at e
def endG : End → Prop
  | .susp _ _ _ _ _ _ fs => splitAtGen fs = none
  | _ => True
theorem endG_state {e : End} (h : endG e) : okG e.genState := by
  cases e with
  | ret _ => trivial
  | susp v g l k c p fs => exact h
theorem not_runs_unsup {M : Model} {Γ : Ctx} {p : Pos} {w : String} {fs : List Frame} {s s' : Shared} {e : End} (h : Runs M Γ p (.unsupported w) fs s e s') : False := by
  generalize ht : (Sem.unsupported w : Sem PySem.Fin) = t at h
  induction h <;> first | (cases ht; done) | (subst ht; simp_all; done) | skip
theorem setGen_mix {G : Array GenState} {s : Shared} {g : Nat} {x : GenState} (h : ¬ SlpAt G g) : mixS G (s.setGen g x) = (mixS G s).setGen g x := by
  unfold mixS Shared.setGen
  rw [mix_set h]
theorem mixS_push {G : Array GenState} {s : Shared} {x : GenState} (h : G.size ≤ s.gens.size) : mixS G { s with gens := s.gens.push x } = { mixS G s with gens := (mixS G s).gens.push x } := by
  unfold mixS
  rw [mix_push h]
theorem mixS_size {G : Array GenState} {s : Shared} : (mixS G s).gens.size = s.gens.size := mix_size
/-- a run goes the same way with its sleepers back -/
theorem runs_mix {M : Model} {G : Array GenState} {Γ : Ctx} {p : Pos} {t : Sem PySem.Fin} {fs : List Frame} {s s' : Shared} {e : End} (h : Runs M Γ p t fs s e s') :
    splitAtGen fs = none → Put G s.gens → Put G s'.gens ∧ endG e ∧ Runs M Γ p t fs (mixS G s) e (mixS G s') := by
  induction h with
  | done => exact fun _ z => ⟨z, trivial, .done⟩
  | raise => exact fun _ z => ⟨z, trivial, .raise⟩
  | again q _ ih => exact fun hf z => let ⟨a, b, c⟩ := ih hf z; ⟨a, b, .again q c⟩
  | rule _ ih => exact fun hf z => let ⟨a, b, c⟩ := ih hf z; ⟨a, b, .rule c⟩
  | «at» _ ih => exact fun hf z => let ⟨a, b, c⟩ := ih hf z; ⟨a, b, .at c⟩
  | load q _ ih => exact fun hf z => let ⟨a, b, c⟩ := ih hf z; ⟨a, b, .load q c⟩
  | update q _ ih => exact fun hf z => let ⟨a, b, c⟩ := ih hf z; ⟨a, b, .update q c⟩
  | loadIfAlive _ ih => exact fun hf z => let ⟨a, b, c⟩ := ih hf z; ⟨a, b, .loadIfAlive c⟩
  | point _ ih => exact fun hf z => let ⟨a, b, c⟩ := ih hf z; ⟨a, b, .point c⟩
  | alloc _ ih => exact fun hf z => let ⟨a, b, c⟩ := ih hf z; ⟨a, b, .alloc c⟩
  | fresh _ ih => exact fun hf z => let ⟨a, b, c⟩ := ih hf z; ⟨a, b, .fresh c⟩
  | ask _ ih => exact fun hf z => let ⟨a, b, c⟩ := ih hf z; ⟨a, b, .ask c⟩
  | choose q _ ih => exact fun hf z => let ⟨a, b, c⟩ := ih hf z; ⟨a, b, .choose q c⟩
  | os _ ih => exact fun hf z => let ⟨a, b, c⟩ := ih hf z; ⟨a, b, .os c⟩
  | handled _ ih => exact fun hf z => let ⟨a, b, c⟩ := ih hf z; ⟨a, b, .handled c⟩
  | genState q _ ih => exact fun hf z => let ⟨a, b, c⟩ := ih hf z; ⟨a, b, .genState (by show (mix G _)[_]? = _; rw [mix_get, q]; rfl) (by rw [mix1_seen z q]; exact c)⟩
  | stack _ ih => exact fun hf z => let ⟨a, b, c⟩ := ih hf z; ⟨a, b, .stack c⟩
  | thread _ ih => exact fun hf z => let ⟨a, b, c⟩ := ih hf z; ⟨a, b, .thread c⟩
  | newGen _ ih =>
    refine fun hf z => ?_
    obtain ⟨a, b, r⟩ := ih hf (z.push trivial)
    refine ⟨a, b, .newGen ?_⟩
    rw [mixS_push z.le] at r
    rw [mixS_size]
    exact r
  | call _ _ ih1 ih2 =>
    refine fun hf z => ?_
    obtain ⟨a, b, r⟩ := ih1 rfl z
    obtain ⟨a2, b2, r2⟩ := ih2 hf a
    exact ⟨a2, b2, .call r r2⟩
  | callSusp _ ih =>
    refine fun hf z => ?_
    obtain ⟨a, b, r⟩ := ih rfl z
    exact ⟨a, split_app b rfl, .callSusp r⟩
  | yield => exact fun _ z => ⟨z, rfl, .yield⟩
  | resumeFresh q _ hq _ ih1 ih2 =>
    refine fun hf z => ?_
    have ns := z.notSlp q rfl
    obtain ⟨a, b, r⟩ := ih1 rfl (z.set ns trivial)
    obtain ⟨a2, b2, r2⟩ := ih2 hf (a.set ns (endG_state b))
    refine ⟨a2, b2, .resumeFresh (mix_at ns q) (by rw [← setGen_mix ns]; exact r) hq (by rw [← setGen_mix ns]; exact r2)⟩
  | @resumeSuspended Γ p g r l k s k₀ l₀ c₀ p₀ fs cl e₁ s₁ e s' q hr hq _ ih1 ih2 =>
    refine fun hf z => ?_
    by_cases ns : SlpAt G g
    · obtain ⟨y, e1, z1⟩ := ns
      have := z.slp g y e1 z1
      rw [q] at this
      cases y with
      | suspended k' l' c' p' fs' cl' =>
        cases this
        exact (not_runs_unsup hr).elim
      | fresh _ => cases z1
      | running => cases z1
      | finished => cases z1
    · have hfs : splitAtGen fs = none := (z.ok g _ q).resolve_left ns
      obtain ⟨a, b, r⟩ := ih1 hfs (z.set ns trivial)
      obtain ⟨a2, b2, r2⟩ := ih2 hf (a.set ns (endG_state b))
      exact ⟨a2, b2, .resumeSuspended (mix_at ns q) (by rw [← setGen_mix ns]; exact r) hq (by rw [← setGen_mix ns]; exact r2)⟩
  | resumeJustStarted q hv _ ih =>
    refine fun hf z => ?_
    obtain ⟨a, b, r⟩ := ih hf z
    exact ⟨a, b, .resumeJustStarted (mix_at (z.notSlp q rfl) q) hv r⟩
  | resumeThrowFresh q _ ih =>
    refine fun hf z => ?_
    have ns := z.notSlp q rfl
    obtain ⟨a, b, r⟩ := ih hf (z.set ns trivial)
    exact ⟨a, b, .resumeThrowFresh (mix_at ns q) (by rw [← setGen_mix ns]; exact r)⟩
  | resumeRunning q _ ih =>
    refine fun hf z => ?_
    obtain ⟨a, b, r⟩ := ih hf z
    exact ⟨a, b, .resumeRunning (mix_at (z.notSlp q rfl) q) r⟩
  | resumeFinished q _ ih =>
    refine fun hf z => ?_
    obtain ⟨a, b, r⟩ := ih hf z
    exact ⟨a, b, .resumeFinished (mix_at (z.notSlp q rfl) q) r⟩
  | segRet _ _ ih1 ih2 =>
    refine fun hf z => ?_
    obtain ⟨a, b, r⟩ := ih1 rfl z
    obtain ⟨a2, b2, r2⟩ := ih2 (split_tail hf) a
    exact ⟨a2, b2, .segRet r r2⟩
  | segGen _ _ ih1 ih2 =>
    refine fun hf z => ?_
    unfold splitAtGen at hf
    cases hf
  | segSuspOut hn _ ih =>
    refine fun hf z => ?_
    obtain ⟨a, b, r⟩ := ih rfl z
    exact ⟨a, split_app b hn, .segSuspOut hn r⟩
  | segSuspGen hn _ _ _ ih1 ih2 =>
    refine fun hf z => ?_
    rw [hf] at hn
    cases hn
end SG
namespace SG
open PySem PyProof.Rows L2
open Sem (wp)
theorem wakes_mix {M : Model} {G : Array GenState} {Γ : Ctx} {p : Pos} {g : Nat} {r : Resume} {s s' : Shared} {res : GenResult} (z : Put G s.gens) (h : Wakes M Γ p g r s res s') : Put G s'.gens ∧ Wakes M Γ p g r (mixS G s) res (mixS G s') := by
  unfold Wakes at h
  cases q : s.gens[g]? with
  | none => rw [q] at h; exact h.elim
  | some x =>
    rw [q] at h
    cases x with
    | fresh c =>
      have ns := z.notSlp q rfl
      have q' : (mixS G s).gens[g]? = some (.fresh c) := mix_at ns q
      cases r with
      | throw x =>
        obtain ⟨h1, h2⟩ := h
        subst h2
        refine ⟨z.set ns trivial, ?_⟩
        unfold Wakes
        rw [q']
        exact ⟨h1, setGen_mix ns⟩
      | send v =>
        cases v with
        | none =>
          obtain ⟨e₁, s₁, hr, hq, h1, h2⟩ := h
          subst h2
          obtain ⟨a, b, rr⟩ := runs_mix hr rfl (z.set ns trivial)
          refine ⟨a.set ns (endG_state b), ?_⟩
          unfold Wakes
          rw [q']
          exact ⟨e₁, _, by rw [← setGen_mix ns]; exact rr, hq, h1, setGen_mix ns⟩
        | _ =>
          obtain ⟨h1, h2⟩ := h
          subst h2
          refine ⟨z, ?_⟩
          unfold Wakes
          rw [q']
          exact ⟨h1, rfl⟩
    | suspended k₀ l₀ c₀ p₀ fs cl =>
      obtain ⟨e₁, s₁, hr, hq, h1, h2⟩ := h
      subst h2
      by_cases ns : SlpAt G g
      · obtain ⟨y, e1, z1⟩ := ns
        have := z.slp g y e1 z1
        rw [q] at this
        cases y with
        | suspended k' l' c' p' fs' cl' =>
          cases this
          exact (not_runs_unsup hr).elim
        | fresh _ => cases z1
        | running => cases z1
        | finished => cases z1
      · have q' : (mixS G s).gens[g]? = some (.suspended k₀ l₀ c₀ p₀ fs cl) := mix_at ns q
        obtain ⟨a, b, rr⟩ := runs_mix hr ((z.ok g _ q).resolve_left ns) (z.set ns trivial)
        refine ⟨a.set ns (endG_state b), ?_⟩
        unfold Wakes
        rw [q']
        exact ⟨e₁, _, by rw [← setGen_mix ns]; exact rr, hq, h1, setGen_mix ns⟩
    | running =>
      have ns := z.notSlp q rfl
      have q' : (mixS G s).gens[g]? = some .running := mix_at ns q
      obtain ⟨h1, h2⟩ := h
      subst h2
      refine ⟨z, ?_⟩
      unfold Wakes
      rw [q']
      exact ⟨h1, rfl⟩
    | finished =>
      have ns := z.notSlp q rfl
      have q' : (mixS G s).gens[g]? = some .finished := mix_at ns q
      obtain ⟨h1, h2⟩ := h
      subst h2
      refine ⟨z, ?_⟩
      unfold Wakes
      rw [q']
      exact ⟨h1, rfl⟩
/-- the state is one of the run without the sleepers -/
def Asl (G : Array GenState) (Q : Shared → Prop) (u : Shared) : Prop := ∃ s', Put G s'.gens ∧ u = mixS G s' ∧ Q s'
theorem wp_mix {α : Type} (M : Model) (Γ : Ctx) (G : Array GenState) (t : Sem α) : ∀ (Q : α → Pos → Shared → Prop) (E : Value → Pos → Shared → Prop) (p : Pos) (s : Shared), Put G s.gens → wp M Γ t Q E p s →
    wp M Γ t (fun a p' u => Asl G (Q a p') u) (fun e p' u => Asl G (E e p') u) p (mixS G s) := by
  induction t with
  | pure a => intro Q E p s z h; exact ⟨s, z, rfl, h⟩
  | raise e => intro Q E p s z h; exact ⟨s, z, rfl, h⟩
  | unsupported _ => intro Q E p s _ h; exact h
  | finish _ => intro Q E p s _ h; exact h
  | rule _ k ih => intro Q E p s z h; exact ih () Q E p s z h
  | «at» p' k ih => intro Q E p s z h; exact ih () Q E p' s z h
  | load a _ k ih => intro Q E p s z h; obtain ⟨o, ho, h⟩ := h; exact ⟨o, ho, ih o Q E p s z h⟩
  | update a _ f k ih => intro Q E p s z h; exact ⟨h.1, ih () Q E p { s with heap := s.heap.update a f } z h.2⟩
  | loadIfAlive a k ih => intro Q E p s z h; exact ih _ Q E p s z h
  | point _ k ih => intro Q E p s z h; exact ih () Q E p s z h
  | register _ _ => intro Q E p s _ h; exact h
  | alloc o k ih => intro Q E p s z h; exact ih _ Q E p { s with heap := s.heap.push o } z h
  | fresh k ih => intro Q E p s z h; exact ih _ Q E p { s with toks := s.toks + 1 } z h
  | ask k ih => intro Q E p s z h; exact ih _ Q E p _ z h
  | choose src m k ih => intro Q E p s z h; exact ⟨h.1, ih _ Q E p { s with drawn := s.drawn.bump src } z h.2⟩
  | os q _ k ih => intro Q E p s z h; exact ih _ Q E p { s with os := (Os.step s.os q).1 } z h
  | call c hd _ _ k ih =>
    intro Q E p s z h
    obtain ⟨r, s', hr, h⟩ := h
    obtain ⟨a, _, rr⟩ := runs_mix hr rfl z
    exact ⟨r, _, rr, ih r Q E p s' a h⟩
  | handled own k ih => intro Q E p s z h; exact ih _ Q E p s z h
  | genState g k ih =>
    intro Q E p s z h
    obtain ⟨st, hs, h⟩ := h
    have := ih _ Q E p s z h
    rw [← mix1_seen z hs] at this
    exact ⟨_, by show (mix G _)[_]? = _; rw [mix_get, hs]; rfl, this⟩
  | newGen c k ih =>
    intro Q E p s z h
    have := ih _ Q E p { s with gens := s.gens.push (.fresh c) } (z.push (x := .fresh c) trivial) h
    rw [mixS_push z.le] at this
    show wp M Γ (k (mixS G s).gens.size) _ _ p _
    rw [mixS_size]
    exact this
  | resume g r _ k ih =>
    intro Q E p s z h
    obtain ⟨res, s', hw, h⟩ := h
    obtain ⟨a, rr⟩ := wakes_mix z hw
    exact ⟨res, _, rr, ih res Q E p s' a h⟩
  | yield _ _ _ _ => intro Q E p s _ h; exact h
  | stack k ih => intro Q E p s z h; exact ih _ Q E p s z h
  | fork _ _ => intro Q E p s _ h; exact h
  | thread k ih => intro Q E p s z h; exact ih _ Q E p s z h
  | await _ _ _ _ _ => intro Q E p s _ h; exact h
/-- all that sleeps is put out -/
def outS (s : Shared) : Shared := { s with gens := s.gens.map stk }
theorem put_out (s : Shared) : Put s.gens (outS s).gens := by
  refine ⟨by show _ ≤ (s.gens.map stk).size; rw [Array.size_map]; exact Nat.le_refl _, fun i y e z => by show (s.gens.map stk)[i]? = _; rw [Array.getElem?_map, e]; rfl, fun i x e => ?_⟩
  have e : (s.gens.map stk)[i]? = some x := e
  rw [Array.getElem?_map] at e
  cases q : s.gens[i]? with
  | none => rw [q] at e; cases e
  | some y =>
    rw [q] at e
    cases e
    by_cases z : sleeps y = true
    · exact .inl ⟨y, q, z⟩
    · refine .inr ?_
      cases y with
      | suspended _ _ _ _ _ _ => exact absurd rfl z
      | fresh _ => trivial
      | running => trivial
      | finished => trivial
theorem mix_out (s : Shared) : mixS s.gens (outS s) = s := by
  have : mix s.gens (s.gens.map stk) = s.gens := by
    apply Array.ext_getElem?
    intro i
    rw [mix_get, Array.getElem?_map]
    cases q : s.gens[i]? with
    | none => rfl
    | some y =>
      show some (mix1 s.gens i (stk y)) = some y
      by_cases z : sleeps y = true
      · rw [mix1_yes q z]
      · rw [mix1_no]
        · cases y with
          | suspended _ _ _ _ _ _ => exact absurd rfl z
          | fresh _ => rfl
          | running => rfl
          | finished => rfl
        · rintro ⟨y', q', z'⟩
          rw [q] at q'
          cases q'
          exact z z'
  unfold mixS outS
  show { s with gens := mix s.gens (s.gens.map stk) } = s
  rw [this]
theorem wpAny_asleep {α : Type} {M : Model} {A : Around} {t : Sem α} {Q : α → Shared → Prop} {E : Value → Shared → Prop} {s : Shared} (h : wpAny M A t Q E (outS s)) : wpAny M A t (fun a u => Asl s.gens (Q a) u) (fun e u => Asl s.gens (E e) u) s := fun Γ p hΓ => by
  have := wp_mix M Γ s.gens t (fun a _ s => Q a s) (fun e _ s => E e s) p (outS s) (put_out s) (h Γ p hΓ)
  rwa [mix_out] at this
theorem wpAny_mix {α : Type} {M : Model} {A : Around} {t : Sem α} {Q : α → Shared → Prop} {E : Value → Shared → Prop} {G : Array GenState} {s : Shared} (z : Put G s.gens) (h : wpAny M A t Q E s) : wpAny M A t (fun a u => Asl G (Q a) u) (fun e u => Asl G (E e) u) (mixS G s) :=
  fun Γ p hΓ => wp_mix M Γ G t (fun a _ s => Q a s) (fun e _ s => E e s) p s z (h Γ p hΓ)
/-- the sleepers stand -/
structure KeepS (G a : Array GenState) : Prop where
  le : G.size ≤ a.size
  slp : ∀ (i : Nat) y, G[i]? = some y → sleeps y = true → a[i]? = some y
/-- .. those behind g -/
structure KeepX (g : Nat) (G a : Array GenState) : Prop where
  le : G.size ≤ a.size
  slp : ∀ (i : Nat) y, g < i → G[i]? = some y → sleeps y = true → a[i]? = some y
theorem KeepS.refl (G : Array GenState) : KeepS G G := ⟨Nat.le_refl _, fun _ _ e _ => e⟩
theorem KeepS.trans {G a b : Array GenState} (x : KeepS G a) (y : KeepS a b) : KeepS G b := ⟨Nat.le_trans x.le y.le, fun i z e h => y.slp i z (x.slp i z e h) h⟩
theorem KeepX.refl (g : Nat) (G : Array GenState) : KeepX g G G := ⟨Nat.le_refl _, fun _ _ _ e _ => e⟩
theorem KeepX.trans {g : Nat} {G a b : Array GenState} (x : KeepX g G a) (y : KeepX g a b) : KeepX g G b := ⟨Nat.le_trans x.le y.le, fun i z n e h => y.slp i z n (x.slp i z n e h) h⟩
theorem KeepX.mono {g g' : Nat} {G a : Array GenState} (x : KeepX g G a) (h : g ≤ g') : KeepX g' G a := ⟨x.le, fun i y n e z => x.slp i y (Nat.lt_of_le_of_lt h n) e z⟩
theorem KeepS.x {G a : Array GenState} (x : KeepS G a) (g : Nat) : KeepX g G a := ⟨x.le, fun i z _ e h => x.slp i z e h⟩
theorem KeepX.empty {g : Nat} {a : Array GenState} : KeepX g #[] a := ⟨Nat.zero_le _, fun i z _ e => by simp at e⟩
theorem Put.mix {G a : Array GenState} (z : Put G a) : KeepS G (mix G a) := ⟨by rw [mix_size]; exact z.le, fun i y e h => by
  rw [mix_get, z.slp i y e h]
  show some (mix1 G i (stk y)) = some y
  rw [mix1_yes e h]⟩
theorem bare_mix {G a : Array GenState} (hG : AllBare G) (ha : AllBare a) : AllBare (mix G a) := fun x hx => by
  obtain ⟨i, hi, rfl⟩ := Array.mem_iff_getElem.mp hx
  have e : (mix G a)[i]? = some (mix G a)[i] := Array.getElem?_eq_getElem hi
  rw [mix_get] at e
  cases q : a[i]? with
  | none => rw [q] at e; cases e
  | some y =>
    rw [q] at e
    have e' : mix1 G i y = (mix G a)[i] := Option.some.inj e
    rw [← e']
    unfold mix1
    cases r : G[i]? with
    | none => exact ha y (Array.mem_of_getElem? q)
    | some z =>
      show (if sleeps z = true then z else y).bare = true
      split
      · exact hG z (Array.mem_of_getElem? r)
      · exact ha y (Array.mem_of_getElem? q)
theorem bare_out {s : Shared} (h : AllBare s.gens) : AllBare (outS s).gens := fun x hx => by
  obtain ⟨y, hy, rfl⟩ := Array.mem_map.mp (show x ∈ s.gens.map stk from hx)
  rw [stk_bare]
  exact h y hy
theorem Asl.keep {G : Array GenState} {Q : Shared → Prop} {u : Shared} (h : Asl G Q u) (hG : AllBare G) : KeepS G u.gens ∧ ∃ s', s'.heap = u.heap ∧ s'.os = u.os ∧ (AllBare s'.gens → AllBare u.gens) ∧ Q s' := by
  obtain ⟨s', z, rfl, q⟩ := h
  exact ⟨z.mix, s', rfl, rfl, fun b => bare_mix hG b, q⟩
/-- the invariant does not speak of generators, but that they are bare -/
theorem Inv.gensOf {X : Cx} {pins : List (Addr × Obj)} {σ : L2.St} {H : Hp} {s u : Shared} (I : Inv X pins σ H s) (e : s.heap = u.heap) (o : s.os = u.os) (b : AllBare u.gens) : Inv X pins σ H u := by
  obtain ⟨h, g, d, t, os⟩ := s
  obtain ⟨h', g', d', t', os'⟩ := u
  cases e
  cases o
  exact ⟨I.ok, I.os, b, I.base, I.loc, I.cell, I.free, I.freeC, I.pin, I.hok, I.len⟩
theorem Inv.out {X : Cx} {pins : List (Addr × Obj)} {σ : L2.St} {H : Hp} {s : Shared} (I : Inv X pins σ H s) : Inv X pins σ H (outS s) := Inv.gensOf I rfl rfl (bare_out I.bare)
theorem SP.gensOf {X : Cx} {pins : List (Addr × Obj)} {D : Ends} {f : Flow} {s u : Shared} (h : SP X pins D f s) (e : s.heap = u.heap) (o : s.os = u.os) (b : AllBare s.gens → AllBare u.gens) : SP X pins D f u := by
  cases f with
  | next => obtain ⟨σ, H, I, q⟩ := h; exact ⟨σ, H, Inv.gensOf I e o (b I.bare), q⟩
  | brk => obtain ⟨σ, H, I, q⟩ := h; exact ⟨σ, H, Inv.gensOf I e o (b I.bare), q⟩
  | cont => obtain ⟨σ, H, I, q⟩ := h; exact ⟨σ, H, Inv.gensOf I e o (b I.bare), q⟩
  | ret v => obtain ⟨x, σ, H, I, r, q⟩ := h; exact ⟨x, σ, H, Inv.gensOf I e o (b I.bare), r, q⟩
/-- what is wanted of an exception does not speak of sleepers -/
def XOk (X : Cx) : Prop := ∀ (G : Array GenState) (e : Value) (u : Shared), AllBare G → Asl G (X.xe e) u → X.xe e u
theorem XOk.no {X : Cx} (h : X.xe = fun _ _ => False) : XOk X := fun G e u _ q => by
  obtain ⟨s', _, _, q⟩ := q
  rw [h] at q
  exact q.elim
/-- a block of a plain def leaves the sleepers as they are -/
theorem pss_keep {X : Cx} {st : List Stmt} {t : TS} (h : PSs X st t) (hx : XOk X) {pins : List (Addr × Obj)} {s : Shared} {σ : L2.St} {H : Hp} {D : Ends} (I : Inv X pins σ H s) (ht : t D σ H) :
    wpAny (model X.prog X.w) X.A (execs st X.env) (fun f u => KeepS s.gens u.gens ∧ SP X pins D f u) X.xe s :=
  wpAny_mono (wpAny_asleep (h.run pins (outS s) σ H D (Inv.out I) ht)) (fun f u q => by
    obtain ⟨k, s', e, o, b, q⟩ := q.keep I.bare
    exact ⟨k, SP.gensOf q e o b⟩) fun e u q => hx _ e u I.bare q
theorem ps_keep {X : Cx} {st : Stmt} {t : TS} (h : PS X st t) (hx : XOk X) {pins : List (Addr × Obj)} {s : Shared} {σ : L2.St} {H : Hp} {D : Ends} (I : Inv X pins σ H s) (ht : t D σ H) :
    wpAny (model X.prog X.w) X.A (exec st X.env) (fun f u => KeepS s.gens u.gens ∧ SP X pins D f u) X.xe s :=
  wpAny_mono (wpAny_asleep (h.run pins (outS s) σ H D (Inv.out I) ht)) (fun f u q => by
    obtain ⟨k, s', e, o, b, q⟩ := q.keep I.bare
    exact ⟨k, SP.gensOf q e o b⟩) fun e u q => hx _ e u I.bare q
theorem pg_keep {X : Cx} {tg : Expr} {t : TG} (h : PG X tg t) (hx : XOk X) {pins : List (Addr × Obj)} {s : Shared} {σ : L2.St} {H : Hp} {v : V} {u : Value} {Q : L2.St → Hp → Prop} (I : Inv X pins σ H s) (r : RelV v u) (ht : t v σ H Q) :
    wpAny (model X.prog X.w) X.A (assign tg X.env u) (fun _ s' => KeepS s.gens s'.gens ∧ ∃ σ' H', Inv X pins σ' H' s' ∧ Q σ' H') X.xe s :=
  wpAny_mono (wpAny_asleep (h.run pins (outS s) σ H v u Q (Inv.out I) r ht)) (fun f u q => by
    obtain ⟨k, s', e, o, b, σ', H', I', q⟩ := q.keep I.bare
    exact ⟨k, σ', H', Inv.gensOf I' e o (b I'.bare), q⟩) fun e u q => hx _ e u I.bare q
theorem pt_keep {X : Cx} {e : Expr} {t : TT} (h : PT X e t) (hx : XOk X) {pins : List (Addr × Obj)} {s : Shared} {σ : L2.St} {H : Hp} {Q : Bool → Hp → Prop} (I : Inv X pins σ H s) (ht : t σ H Q) :
    wpAny (model X.prog X.w) X.A (isTrue e X.env (eval e X.env)) (fun v u => KeepS s.gens u.gens ∧ TP X pins σ Q v u) X.xe s :=
  wpAny_mono (wpAny_asleep (h.run pins (outS s) σ H Q (Inv.out I) ht)) (fun f u q => by
    obtain ⟨k, s', e, o, b, H', I', q⟩ := q.keep I.bare
    exact ⟨k, H', Inv.gensOf I' e o (b I'.bare), q⟩) fun e u q => hx _ e u I.bare q
theorem pe_keep {X : Cx} {e : Expr} {t : TE} (h : PE X e t) (hx : XOk X) {pins : List (Addr × Obj)} {s : Shared} {σ : L2.St} {H : Hp} {Q : VK} (I : Inv X pins σ H s) (ht : t σ H Q) :
    wpAny (model X.prog X.w) X.A (eval e X.env) (fun v u => KeepS s.gens u.gens ∧ EP X pins σ Q v u) X.xe s :=
  wpAny_mono (wpAny_asleep (h.run pins (outS s) σ H Q (Inv.out I) ht)) (fun f u q => by
    obtain ⟨k, s', e, o, b, v, H', I', r, q⟩ := q.keep I.bare
    exact ⟨k, v, H', Inv.gensOf I' e o (b I'.bare), r, q⟩) fun e u q => hx _ e u I.bare q
end SG
namespace SG
open PySem L2
open Sem (wp)
/-! ### yield from over a generator: the real machine goes by, the rules do not; so the rules are asked of a tree without the mark -/
def ug (a : Addr) : Sem PySem.Fin → Sem PySem.Fin
  | .pure x => .pure x
  | .raise e => .raise e
  | .unsupported w => .unsupported w
  | .finish e => .finish e
  | .rule t k => .rule t fun x => ug a (k x)
  | .at p k => .at p fun x => ug a (k x)
  | .load b part k => .load b part fun x => ug a (k x)
  | .update b part f k => .update b part f fun x => ug a (k x)
  | .alloc o k => .alloc o fun x => ug a (k x)
  | .loadIfAlive b k => .loadIfAlive b fun x => ug a (k x)
  | .point l k => .point l fun x => ug a (k x)
  | .register b k => .register b fun x => ug a (k x)
  | .fresh k => .fresh fun x => ug a (k x)
  | .ask k => .ask fun x => ug a (k x)
  | .choose src n k => .choose src n fun x => ug a (k x)
  | .os r l k => .os r l fun x => ug a (k x)
  | .call c h g l k => .call c h g l fun x => ug a (k x)
  | .handled o k => .handled o fun x => ug a (k x)
  | .newGen c k => .newGen c fun x => ug a (k x)
  | .genState g k => .genState g fun x => ug a (k x)
  | .resume g r l k => .resume g r l fun x => ug a (k x)
  | .yield v false l k => .yield v false [] fun x => ug a (k x)
  | .yield v true l k => .load a none fun o => if o.genNumber?.isSome = true then .yield v false [.none] fun x => ug a (k x) else .unsupported ""
  | .stack k => .stack fun x => ug a (k x)
  | .fork c k => .fork c fun x => ug a (k x)
  | .thread k => .thread fun x => ug a (k x)
  | .await b t d l k => .await b t d l fun x => ug a (k x)
def isYf : Code → Option Addr
  | .builtin id ⟨.ref a :: _, _⟩ => if id = "proto.yield_from" then some a else none
  | _ => none
def trt (c : Code) (t : Sem PySem.Fin) : Sem PySem.Fin := match isYf c with
  | some a => ug a t
  | none => t
/-- what a suspension keeps alive: in yield from, it tells whether the mark was taken off -/
def lvs (c : Code) (l : List Value) : List Value := match isYf c with
  | some _ => []
  | none => l
def trF : Frame → Frame
  | .ret k h g l c p kp => .ret (fun r => trt c (k r)) h g l c p kp
  | .gen g k l c p => .gen g (fun r => trt c (k r)) l c p
def trG : GenState → GenState
  | .suspended k l c p fs cl => .suspended (fun r => trt c (k r)) (lvs c l) c p (fs.map trF) cl
  | x => x
def trE : End → End
  | .ret r => .ret r
  | .susp v g l k c p fs => .susp v g (lvs c l) (fun r => trt c (k r)) c p (fs.map trF)
def trS (s : Shared) : Shared := { s with gens := s.gens.map trG }
def Mz (P : Program) (w : World) : Model := ⟨fun c => trt c (denote table c), P, w⟩
section
variable {c : Code}
theorem trt_no (h : isYf c = none) (t : Sem PySem.Fin) : trt c t = t := by unfold trt; rw [h]
theorem isYf_id {id : String} {args : Args} (h : id ≠ "proto.yield_from") : isYf (.builtin id args) = none := by
  obtain ⟨pos, kw⟩ := args
  cases pos with
  | nil => rfl
  | cons v r => cases v <;> first | rfl | exact if_neg h
theorem trt_pure (x : PySem.Fin) : trt c (.pure x) = .pure x := by unfold trt; cases isYf c <;> rfl
theorem trt_raise (x : Value) : trt c (.raise x) = .raise x := by unfold trt; cases isYf c <;> rfl
theorem trt_unsup (x : String) : trt c (.unsupported x) = .unsupported x := by unfold trt; cases isYf c <;> rfl
theorem trt_finish (x : Ending) : trt c (.finish x) = .finish x := by unfold trt; cases isYf c <;> rfl
theorem trt_rule (t : String) (k) : trt c (.rule t k) = .rule t fun x => trt c (k x) := by unfold trt; cases isYf c <;> rfl
theorem trt_at (t : Pos) (k) : trt c (.at t k) = .at t fun x => trt c (k x) := by unfold trt; cases isYf c <;> rfl
theorem trt_load (a p k) : trt c (.load a p k) = .load a p fun x => trt c (k x) := by unfold trt; cases isYf c <;> rfl
theorem trt_update (a p f k) : trt c (.update a p f k) = .update a p f fun x => trt c (k x) := by unfold trt; cases isYf c <;> rfl
theorem trt_alloc (a k) : trt c (.alloc a k) = .alloc a fun x => trt c (k x) := by unfold trt; cases isYf c <;> rfl
theorem trt_loadIfAlive (a k) : trt c (.loadIfAlive a k) = .loadIfAlive a fun x => trt c (k x) := by unfold trt; cases isYf c <;> rfl
theorem trt_point (a k) : trt c (.point a k) = .point a fun x => trt c (k x) := by unfold trt; cases isYf c <;> rfl
theorem trt_register (a k) : trt c (.register a k) = .register a fun x => trt c (k x) := by unfold trt; cases isYf c <;> rfl
theorem trt_fresh (k) : trt c (.fresh k) = .fresh fun x => trt c (k x) := by unfold trt; cases isYf c <;> rfl
theorem trt_ask (k) : trt c (.ask k) = .ask fun x => trt c (k x) := by unfold trt; cases isYf c <;> rfl
theorem trt_choose (a n k) : trt c (.choose a n k) = .choose a n fun x => trt c (k x) := by unfold trt; cases isYf c <;> rfl
theorem trt_os (a n k) : trt c (.os a n k) = .os a n fun x => trt c (k x) := by unfold trt; cases isYf c <;> rfl
theorem trt_call (c' h g l k) : trt c (.call c' h g l k) = .call c' h g l fun x => trt c (k x) := by unfold trt; cases isYf c <;> rfl
theorem trt_handled (a k) : trt c (.handled a k) = .handled a fun x => trt c (k x) := by unfold trt; cases isYf c <;> rfl
theorem trt_newGen (a k) : trt c (.newGen a k) = .newGen a fun x => trt c (k x) := by unfold trt; cases isYf c <;> rfl
theorem trt_genState (a k) : trt c (.genState a k) = .genState a fun x => trt c (k x) := by unfold trt; cases isYf c <;> rfl
theorem trt_resume (a r l k) : trt c (.resume a r l k) = .resume a r l fun x => trt c (k x) := by unfold trt; cases isYf c <;> rfl
theorem trt_yield (v l k) : trt c (.yield v false l k) = .yield v false (lvs c l) fun x => trt c (k x) := by unfold trt lvs; cases isYf c <;> rfl
theorem trt_stack (k) : trt c (.stack k) = .stack fun x => trt c (k x) := by unfold trt; cases isYf c <;> rfl
theorem trt_thread (k) : trt c (.thread k) = .thread fun x => trt c (k x) := by unfold trt; cases isYf c <;> rfl
theorem trt_fork (a k) : trt c (.fork a k) = .fork a fun x => trt c (k x) := by unfold trt; cases isYf c <;> rfl
theorem trt_await (a f d l k) : trt c (.await a f d l k) = .await a f d l fun x => trt c (k x) := by unfold trt; cases isYf c <;> rfl
end
theorem trF_where (f : Frame) : (trF f).where_ = f.where_ := by cases f <;> rfl
theorem trF_guarded (f : Frame) : (trF f).guarded = f.guarded := by cases f <;> rfl
theorem trF_marks (f : Frame) : (trF f).marks = f.marks := by cases f <;> rfl
theorem trF_any (fs : List Frame) : (fs.map trF).any Frame.guarded = fs.any Frame.guarded := by
  induction fs with
  | nil => rfl
  | cons f fs ih => rw [List.map_cons, List.any_cons, List.any_cons, ih, trF_guarded]
theorem trF_wheres (fs : List Frame) : (fs.map trF).map Frame.where_ = fs.map Frame.where_ := by
  rw [List.map_map]; congr 1; funext f; exact trF_where f
theorem trF_over (fs : List Frame) (x) : marksOver (fs.map trF) x = marksOver fs x := by
  induction fs with
  | nil => rfl
  | cons f fs ih => show (trF f).marks (marksOver (fs.map trF) x) = _; rw [ih, trF_marks]; rfl
theorem trF_split (fs : List Frame) : splitAtGen (fs.map trF) = (splitAtGen fs).map fun x => (x.1.map trF, (x.2.1.1, fun r => trt x.2.1.2.2.1 (x.2.1.2.1 r), x.2.1.2.2.1, x.2.1.2.2.2), x.2.2.map trF) := by
  induction fs with
  | nil => rfl
  | cons f fs ih =>
    cases f with
    | ret k h g l c p kp =>
      show (splitAtGen (fs.map trF)).map _ = ((splitAtGen fs).map _).map _
      rw [ih]
      cases splitAtGen fs <;> rfl
    | gen g k l c p => rfl
theorem trF_top (fs : List Frame) : topHandled (fs.map trF) = topHandled fs := by
  have h := marks_append (fs.map trF) []
  have h2 := marks_append fs []
  rw [List.append_nil] at h h2
  exact congrArg Prod.fst (h.trans ((trF_over fs _).trans h2.symm))
theorem trF_ctx (Γ : Ctx) (fs : List Frame) : Γ.over (fs.map trF) = Γ.over fs := by
  unfold Ctx.over
  rw [trF_over, trF_over, trF_wheres, trF_split]
  cases splitAtGen fs with
  | none => rfl
  | some x => obtain ⟨a, ⟨g, k, c, p⟩, r⟩ := x; simp [trF_top]
theorem trE_quiet (e : End) : (trE e).quiet = e.quiet := by
  cases e with
  | ret r => rfl
  | susp v g l k c p fs => show (!(g || (fs.map trF).any Frame.guarded)) = _; rw [trF_any]; rfl
theorem trE_state (e : End) : (trE e).genState = trG e.genState := by
  cases e with
  | ret r => rfl
  | susp v g l k c p fs => show GenState.suspended _ _ _ _ _ (g || (fs.map trF).any Frame.guarded) = _; rw [trF_any]; rfl
theorem trE_result (e : End) : (trE e).result = e.result := by cases e <;> rfl
theorem trG_seen (x : GenState) : (trG x).seen = x.seen := by
  cases x with
  | suspended k l c p fs cl => show (_, some (_ :: (fs.map trF).map Frame.where_)) = _; rw [trF_wheres]; rfl
  | _ => rfl
theorem trS_set (s : Shared) (g : Nat) (x : GenState) : trS (s.setGen g x) = (trS s).setGen g (trG x) := by
  unfold trS Shared.setGen
  show { s with gens := (s.gens.setIfInBounds g x).map trG } = _
  rw [Array.map_setIfInBounds]
theorem trS_get (s : Shared) (g : Nat) : (trS s).gens[g]? = (s.gens[g]?).map trG := by show (s.gens.map trG)[g]? = _; rw [Array.getElem?_map]
theorem trS_push (s : Shared) (c : Code) : trS { s with gens := s.gens.push (.fresh c) } = { trS s with gens := (trS s).gens.push (.fresh c) } := by
  unfold trS
  simp [trG]
theorem trS_size (s : Shared) : (trS s).gens.size = s.gens.size := by show (s.gens.map trG).size = _; rw [Array.size_map]
theorem ret_tr {k h g l c p kp} : trF (.ret k h g l c p kp) = .ret (fun r => trt c (k r)) h g l c p kp := rfl
/-- what the rules say of a run without marks holds of the other machine -/
theorem runs_z {P : Program} {w : World} {Γ : Ctx} {p : Pos} {t : Sem PySem.Fin} {fs : List Frame} {s s' : Shared} {e : End} (h : Runs (model P w) Γ p t fs s e s') :
    e.quiet = true → Runs (Mz P w) Γ p (trt Γ.code t) (fs.map trF) (trS s) (trE e) (trS s') := by
  induction h with
  | done => intro _; rw [trt_pure]; exact .done
  | raise => intro _; rw [trt_raise]; exact .raise
  | again q _ ih => intro z; rw [trt_pure]; exact .again q (ih z)
  | rule _ ih => intro z; rw [trt_rule]; exact .rule (ih z)
  | «at» _ ih => intro z; rw [trt_at]; exact .at (ih z)
  | load q _ ih => intro z; rw [trt_load]; exact .load q (ih z)
  | update q _ ih => intro z; rw [trt_update]; exact .update q (ih z)
  | loadIfAlive _ ih => intro z; rw [trt_loadIfAlive]; exact .loadIfAlive (ih z)
  | point _ ih => intro z; rw [trt_point]; exact .point (ih z)
  | alloc _ ih => intro z; rw [trt_alloc]; exact .alloc (ih z)
  | fresh _ ih => intro z; rw [trt_fresh]; exact .fresh (ih z)
  | ask _ ih => intro z; rw [trt_ask]; exact .ask (ih z)
  | choose q _ ih => intro z; rw [trt_choose]; exact .choose q (ih z)
  | os _ ih => intro z; rw [trt_os]; exact .os (ih z)
  | handled _ ih => intro z; rw [trt_handled]; exact .handled (ih z)
  | genState q _ ih => intro z; rw [trt_genState]; exact .genState (by rw [trS_get, q]; rfl) (by rw [trG_seen]; exact ih z)
  | stack _ ih => intro z; rw [trt_stack]; exact .stack (ih z)
  | thread _ ih => intro z; rw [trt_thread]; exact .thread (ih z)
  | newGen _ ih =>
    intro z
    rw [trt_newGen]
    have r := ih z
    rw [trS_push] at r
    refine .newGen ?_
    rw [trS_size]
    exact r
  | call _ _ ih1 ih2 => intro z; rw [trt_call]; exact .call (ih1 rfl) (ih2 z)
  | @callSusp Γ p c h g l k s v g₀ l₀ k₀ c₀ p₀ fs s' _ ih =>
    intro z
    rw [trt_call]
    have z' : (!(g₀ || fs.any Frame.guarded)) = true := by
      have : (!(g₀ || (fs ++ [Frame.ret k h g l Γ.code p []]).any Frame.guarded)) = true := z
      rw [List.any_append] at this
      simp only [Bool.not_eq_true', Bool.or_eq_false_iff] at this ⊢
      exact ⟨this.1, this.2.1⟩
    show Runs _ _ _ _ _ _ (.susp v g₀ (lvs c₀ l₀) _ c₀ p₀ ((fs ++ [Frame.ret k h g l Γ.code p []]).map trF)) _
    rw [List.map_append]
    exact .callSusp (ih z')
  | @yield Γ p v g l k s =>
    intro z
    have z' : (!(g || ([] : List Frame).any Frame.guarded)) = true := z
    have hg : g = false := by cases g <;> first | rfl | cases z'
    subst hg
    rw [trt_yield]
    exact .yield
  | resumeFresh q _ hq _ ih1 ih2 =>
    intro z
    rw [trt_resume]
    have r1 := ih1 hq
    have r2 := ih2 z
    rw [trS_set] at r1 r2
    rw [← trE_state] at r2
    refine .resumeFresh (by rw [trS_get, q]; rfl) r1 (by rw [trE_quiet]; exact hq) ?_
    rw [trE_result]
    exact r2
  | resumeSuspended q _ hq _ ih1 ih2 =>
    intro z
    rw [trt_resume]
    have r1 := ih1 hq
    have r2 := ih2 z
    rw [trS_set] at r1 r2
    rw [← trE_state] at r2
    refine .resumeSuspended (by rw [trS_get, q]; rfl) r1 (by rw [trE_quiet]; exact hq) ?_
    rw [trE_result]
    exact r2
  | resumeJustStarted q hv _ ih => intro z; rw [trt_resume]; exact .resumeJustStarted (by rw [trS_get, q]; rfl) hv (ih z)
  | resumeThrowFresh q _ ih =>
    intro z
    rw [trt_resume]
    have r := ih z
    rw [trS_set] at r
    exact .resumeThrowFresh (by rw [trS_get, q]; rfl) r
  | resumeRunning q _ ih => intro z; rw [trt_resume]; exact .resumeRunning (by rw [trS_get, q]; rfl) (ih z)
  | resumeFinished q _ ih => intro z; rw [trt_resume]; exact .resumeFinished (by rw [trS_get, q]; rfl) (ih z)
  | @segRet Γ p t k h g l c₁ p₁ kp fs s r s₁ e s' _ _ ih1 ih2 =>
    intro z
    have r1 := ih1 rfl
    rw [← trF_ctx] at r1
    exact .segRet r1 (ih2 z)
  | @segGen Γ p t g k l c₁ p₁ fs s r s₁ e s' _ _ ih1 ih2 =>
    intro z
    have r1 := ih1 rfl
    rw [← trF_ctx] at r1
    have r2 := ih2 z
    rw [trS_set] at r2
    exact .segGen r1 r2
  | @segSuspOut Γ p t F fs s v g₀ l₀ k₀ c₀ p₀ fs₀ s' hn _ ih =>
    intro z
    have z' : (!(g₀ || fs₀.any Frame.guarded)) = true := by
      have : (!(g₀ || (fs₀ ++ F :: fs).any Frame.guarded)) = true := z
      rw [List.any_append] at this
      simp only [Bool.not_eq_true', Bool.or_eq_false_iff] at this ⊢
      exact ⟨this.1, this.2.1⟩
    have r1 := ih z'
    rw [← trF_ctx] at r1
    show Runs _ _ _ _ _ _ (.susp v g₀ (lvs c₀ l₀) _ c₀ p₀ ((fs₀ ++ F :: fs).map trF)) _
    rw [List.map_append]
    have hn' : splitAtGen ((F :: fs).map trF) = none := by rw [trF_split, hn]; rfl
    exact .segSuspOut hn' r1
  | @segSuspGen Γ p t F fs pre g k c₁ p₁ rest s v g₀ l₀ k₀ c₀ p₀ fs₀ s₁ e s' hn _ hq _ ih1 ih2 =>
    intro z
    have hq0 : (!(g₀ || (fs₀ ++ pre).any Frame.guarded)) = true := hq
    have z' : (!(g₀ || fs₀.any Frame.guarded)) = true := by
      rw [List.any_append] at hq0
      simp only [Bool.not_eq_true', Bool.or_eq_false_iff] at hq0 ⊢
      exact ⟨hq0.1, hq0.2.1⟩
    have r1 := ih1 z'
    rw [← trF_ctx] at r1
    have r2 := ih2 z
    rw [trS_set, ← trE_state] at r2
    have hn' : splitAtGen ((F :: fs).map trF) = some (pre.map trF, (g, fun r => trt c₁ (k r), c₁, p₁), rest.map trF) := by rw [trF_split, hn]; rfl
    have e2 : trE (.susp v g₀ l₀ k₀ c₀ p₀ (fs₀ ++ pre)) = .susp v g₀ (lvs c₀ l₀) (fun r => trt c₀ (k₀ r)) c₀ p₀ (fs₀.map trF ++ pre.map trF) := by
      show End.susp v g₀ (lvs c₀ l₀) _ c₀ p₀ ((fs₀ ++ pre).map trF) = _
      rw [List.map_append]
    have hq2 : (trE (.susp v g₀ l₀ k₀ c₀ p₀ (fs₀ ++ pre))).quiet = true := by rw [trE_quiet]; exact hq
    rw [e2] at hq2 r2
    exact .segSuspGen hn' r1 hq2 r2
end SG
namespace SG
open PySem PyProof.Rows L2
open Sem (wp)
/-! ### what the rules prove, told of the other machine -/
abbrev NoX : Value → Shared → Prop := fun _ _ => False
theorem wakes_z {P : Program} {w : World} {Γ : Ctx} {p : Pos} {g : Nat} {r : Resume} {s s' : Shared} {res : GenResult} (h : Wakes (model P w) Γ p g r s res s') : Wakes (Mz P w) Γ p g r (trS s) res (trS s') := by
  unfold Wakes at h ⊢
  rw [trS_get]
  cases q : s.gens[g]? with
  | none => rw [q] at h; exact h.elim
  | some x =>
    rw [q] at h
    cases x with
    | fresh c =>
      cases r with
      | throw x => obtain ⟨h1, h2⟩ := h; subst h2; exact ⟨h1, trS_set _ _ _⟩
      | send v =>
        cases v with
        | none =>
          obtain ⟨e₁, s₁, hr, hq, h1, h2⟩ := h
          subst h2
          have rr := runs_z hr hq
          rw [trS_set] at rr
          exact ⟨trE e₁, _, rr, by rw [trE_quiet]; exact hq, by rw [trE_result]; exact h1, by rw [trS_set, trE_state]⟩
        | _ => obtain ⟨h1, h2⟩ := h; subst h2; exact ⟨h1, rfl⟩
    | suspended k₀ l₀ c₀ p₀ fs cl =>
      obtain ⟨e₁, s₁, hr, hq, h1, h2⟩ := h
      subst h2
      have rr := runs_z hr hq
      rw [trS_set] at rr
      exact ⟨trE e₁, _, rr, by rw [trE_quiet]; exact hq, by rw [trE_result]; exact h1, by rw [trS_set, trE_state]⟩
    | running => obtain ⟨h1, h2⟩ := h; subst h2; exact ⟨h1, rfl⟩
    | finished => obtain ⟨h1, h2⟩ := h; subst h2; exact ⟨h1, rfl⟩
def TrQ (Q : Shared → Prop) (u : Shared) : Prop := ∃ s', u = trS s' ∧ Q s'
theorem wp_z {P : Program} {w : World} {α : Type} (Γ : Ctx) (t : Sem α) : ∀ (Q : α → Pos → Shared → Prop) (E : Value → Pos → Shared → Prop) (p : Pos) (s : Shared), wp (model P w) Γ t Q E p s →
    wp (Mz P w) Γ t (fun a p' u => TrQ (Q a p') u) (fun e p' u => TrQ (E e p') u) p (trS s) := by
  induction t with
  | pure a => intro Q E p s h; exact ⟨s, rfl, h⟩
  | raise e => intro Q E p s h; exact ⟨s, rfl, h⟩
  | unsupported _ => intro Q E p s h; exact h
  | finish _ => intro Q E p s h; exact h
  | rule _ k ih => intro Q E p s h; exact ih () Q E p s h
  | «at» p' k ih => intro Q E p s h; exact ih () Q E p' s h
  | load a _ k ih => intro Q E p s h; obtain ⟨o, ho, h⟩ := h; exact ⟨o, ho, ih o Q E p s h⟩
  | update a _ f k ih => intro Q E p s h; exact ⟨h.1, ih () Q E p { s with heap := s.heap.update a f } h.2⟩
  | loadIfAlive a k ih => intro Q E p s h; exact ih _ Q E p s h
  | point _ k ih => intro Q E p s h; exact ih () Q E p s h
  | register _ _ => intro Q E p s h; exact h
  | alloc o k ih => intro Q E p s h; exact ih _ Q E p { s with heap := s.heap.push o } h
  | fresh k ih => intro Q E p s h; exact ih _ Q E p { s with toks := s.toks + 1 } h
  | ask k ih => intro Q E p s h; exact ih _ Q E p _ h
  | choose src m k ih => intro Q E p s h; exact ⟨h.1, ih _ Q E p { s with drawn := s.drawn.bump src } h.2⟩
  | os q _ k ih => intro Q E p s h; exact ih _ Q E p { s with os := (Os.step s.os q).1 } h
  | call c hd _ _ k ih =>
    intro Q E p s h
    obtain ⟨r, s', hr, h⟩ := h
    exact ⟨r, _, runs_z (e := .ret r) hr rfl, ih r Q E p s' h⟩
  | handled own k ih => intro Q E p s h; exact ih _ Q E p s h
  | genState g k ih =>
    intro Q E p s h
    obtain ⟨st, hs, h⟩ := h
    have := ih _ Q E p s h
    rw [← trG_seen] at this
    exact ⟨_, by rw [trS_get, hs]; rfl, this⟩
  | newGen c k ih =>
    intro Q E p s h
    have := ih _ Q E p { s with gens := s.gens.push (.fresh c) } h
    rw [trS_push] at this
    show wp _ Γ (k (trS s).gens.size) _ _ p _
    rw [trS_size]
    exact this
  | resume g r _ k ih =>
    intro Q E p s h
    obtain ⟨res, s', hw, h⟩ := h
    exact ⟨res, _, wakes_z hw, ih res Q E p s' h⟩
  | yield _ _ _ _ => intro Q E p s h; exact h
  | stack k ih => intro Q E p s h; exact ih _ Q E p s h
  | fork _ _ => intro Q E p s h; exact h
  | thread k ih => intro Q E p s h; exact ih _ Q E p s h
  | await _ _ _ _ _ => intro Q E p s h; exact h
theorem trF_blank (f : Frame) : trF (blankF f) = blankF f := by
  cases f with
  | ret k h g l c p kp => show Frame.ret _ h g l c p kp = _; congr 1; funext r; exact trt_unsup ""
  | gen g k l c p => show Frame.gen g _ l c p = _; congr 1; funext r; exact trt_unsup ""
theorem trG_stk (x : GenState) : trG (stk x) = stk x := by
  cases x with
  | suspended k l c p fs cl =>
    show GenState.suspended (fun r => trt c (.unsupported "")) (lvs c []) c p ((fs.map blankF).map trF) cl = .suspended (fun _ => .unsupported "") [] c p (fs.map blankF) cl
    have h1 : (fun r : Resume => trt c (.unsupported "")) = fun _ => .unsupported "" := by funext r; exact trt_unsup ""
    have h2 : lvs c [] = [] := by unfold lvs; cases isYf c <;> rfl
    have h3 : (fs.map blankF).map trF = fs.map blankF := by rw [List.map_map]; congr 1; funext f; exact trF_blank f
    rw [h1, h2, h3]
  | _ => rfl
theorem trS_out (s : Shared) : trS (outS s) = outS s := by
  have : (s.gens.map stk).map trG = s.gens.map stk := by
    rw [Array.map_map]; congr 1; funext x; exact trG_stk x
  unfold trS outS
  show { s with gens := (s.gens.map stk).map trG } = _
  rw [this]
/-- the marks that may stand: what is yielded from -/
abbrev Mark := Nat × Addr × Obj
def MkS (B : List Mark) (s : Shared) : Prop := ∀ (i : Nat) k l c p fs cl, s.gens[i]? = some (GenState.suspended k l c p fs cl) → ∀ a, isYf c = some a → l ≠ [] → ∃ oa, (i, a, oa) ∈ B ∧ oa.genNumber?.isSome = true
theorem MkS.mono {B B' : List Mark} {s : Shared} (h : MkS B s) (k : ∀ b ∈ B, b ∈ B') : MkS B' s := fun i k' l c p fs cl e a ha hl => let ⟨oa, z, z2⟩ := h i k' l c p fs cl e a ha hl; ⟨oa, k _ z, z2⟩
theorem MkS.same {B : List Mark} {s s' : Shared} (h : MkS B s) (e : s'.gens = s.gens) : MkS B s' := fun i k l c p fs cl => by rw [e]; exact h i k l c p fs cl
theorem MkS.set {B : List Mark} {s : Shared} {g : Nat} {x : GenState} (h : MkS B s) (hx : ∀ k l c p fs cl, x = .suspended k l c p fs cl → ∀ a, isYf c = some a → l ≠ [] → ∃ oa, (g, a, oa) ∈ B ∧ oa.genNumber?.isSome = true) : MkS B (s.setGen g x) := fun i k l c p fs cl e a ha hl => by
  have e : (s.gens.setIfInBounds g x)[i]? = some (.suspended k l c p fs cl) := e
  rw [Array.getElem?_setIfInBounds] at e
  by_cases z : g = i
  · subst z
    rw [if_pos rfl] at e
    split at e
    · cases e; exact hx k l c p fs cl rfl a ha hl
    · cases e
  · rw [if_neg z] at e
    exact h i k l c p fs cl e a ha hl
/-- one's own mark is gone while one runs -/
theorem MkS.drop {B B' : List Mark} {s : Shared} {g : Nat} {b : Addr × Obj} (h : MkS (B ++ (g, b) :: B') s) (hg : s.gens[g]? = some .running) : MkS (B ++ B') s := fun i k l c p fs cl e a ha hl => by
  obtain ⟨oa, z, z2⟩ := h i k l c p fs cl e a ha hl
  refine ⟨oa, ?_, z2⟩
  rcases List.mem_append.mp z with z | z
  · exact List.mem_append_left _ z
  · rcases List.mem_cons.mp z with z | z
    · have : i = g := congrArg Prod.fst z
      rw [this, hg] at e
      cases e
    · exact List.mem_append_right _ z
theorem MkS.push {B : List Mark} {s : Shared} {c : Code} {tk : Nat} {hp : Heap} (h : MkS B s) : MkS B { s with gens := s.gens.push (.fresh c), toks := tk, heap := hp } := fun i k l c' p fs cl e a ha hl => by
  have e : (s.gens.push (.fresh c))[i]? = some (.suspended k l c' p fs cl) := e
  rw [Array.getElem?_push] at e
  split at e
  · cases e
  · exact h i k l c' p fs cl e a ha hl
/-- what stands behind a piece that knows no mark -/
structure AslZ (s : Shared) (Q : Shared → Prop) (u : Shared) : Prop where
  keep : KeepS s.gens u.gens
  mks : ∀ B, MkS B s → MkS B u
  ex : ∃ s', s'.heap = u.heap ∧ s'.os = u.os ∧ (AllBare s.gens → AllBare s'.gens → AllBare u.gens) ∧ Q s'
theorem trG_bare (x : GenState) : (trG x).bare = x.bare := by cases x <;> rfl
theorem AslZ.of {s u : Shared} {Q : Shared → Prop} (h : Asl s.gens (TrQ Q) u) : AslZ s Q u := by
  obtain ⟨s1, z, rfl, s', rfl, q⟩ := h
  refine ⟨z.mix, fun B hB i k l c p fs cl e a ha hl => ?_, s', rfl, rfl, fun b1 b2 => bare_mix b1 fun x hx => ?_, q⟩
  · have e : (mix s.gens (trS s').gens)[i]? = some (.suspended k l c p fs cl) := e
    rw [mix_get, trS_get, Option.map_map] at e
    cases q' : s'.gens[i]? with
    | none => rw [q'] at e; cases e
    | some y =>
      rw [q'] at e
      have e : mix1 s.gens i (trG y) = .suspended k l c p fs cl := Option.some.inj e
      by_cases hs : SlpAt s.gens i
      · obtain ⟨y', e', z'⟩ := hs
        rw [mix1_yes e' z'] at e
        subst e
        exact hB i k l c p fs cl e' a ha hl
      · rw [mix1_no hs] at e
        cases y with
        | suspended k' l' c' p' fs' cl' =>
          have e : GenState.suspended (fun r => trt c' (k' r)) (lvs c' l') c' p' (fs'.map trF) cl' = .suspended k l c p fs cl := e
          injection e with _ e1 e2
          subst e2
          exact absurd (by rw [← e1]; unfold lvs; rw [ha]) hl
        | _ => cases e
  · obtain ⟨y, hy, rfl⟩ := Array.mem_map.mp (show x ∈ s'.gens.map trG from hx)
    rw [trG_bare]
    exact b2 y hy
theorem wpAny_z {P : Program} {w : World} {α : Type} {A : Around} {t : Sem α} {Q : α → Shared → Prop} {E : Value → Shared → Prop} {s : Shared} (h : wpAny (model P w) A t Q E (outS s)) :
    wpAny (Mz P w) A t (fun a u => AslZ s (Q a) u) (fun e u => AslZ s (E e) u) s := fun Γ p hΓ => by
  have h1 := wp_z Γ t (fun a _ s => Q a s) (fun e _ s => E e s) p (outS s) (h Γ p hΓ)
  rw [trS_out] at h1
  have h2 := wp_mix (Mz P w) Γ s.gens t _ _ p (outS s) (put_out s) h1
  rw [mix_out] at h2
  exact Sem.wp_mono _ Γ t (fun a _ u q => AslZ.of q) (fun e _ u q => AslZ.of q) p s h2
theorem codeAny_z {P : Program} {w : World} {A : Around} {c : Code} {R : Result → Shared → Prop} {s : Shared} (h : codeAny (model P w) A c R (outS s)) : codeAny (Mz P w) A c (fun r u => AslZ s (R r) u) s := fun Γ p hc hΓ => by
  obtain ⟨r, s', hr, q⟩ := h Γ p hc hΓ
  have h1 := runs_z (e := .ret r) hr rfl
  rw [trS_out] at h1
  obtain ⟨a, _, h2⟩ := runs_mix (G := s.gens) h1 rfl (put_out s)
  rw [mix_out] at h2
  exact ⟨r, _, h2, AslZ.of ⟨_, a, rfl, s', rfl, q⟩⟩
end SG
namespace SG
open PySem PyProof.Rows L2
open Sem (wp)
/-! ### codes of the other machine -/
section
variable {P : Program} {w : World} {A : Around} {s : Shared} {R : Result → Shared → Prop}
theorem den_z {id : String} {args : Args} {b : Builtin} (hi : id ≠ "proto.yield_from") (hb : entryFor table id = some b) : (Mz P w).den (.builtin id args) = b args := by
  show trt (.builtin id args) (denote table (.builtin id args)) = b args
  rw [trt_no (isYf_id hi)]
  show (match entryFor table id with
    | some b => b args
    | none => _) = _
  rw [hb]
/-- what a code comes to -/
abbrev FinZ (M : Model) (A : Around) (R : Result → Shared → Prop) (x : PySem.Fin) (s' : Shared) : Prop := match x with
  | .done f => R (.ok f) s'
  | .again c => c.quiet = true ∧ codeAny M A c R s'
abbrev ErrZ (R : Result → Shared → Prop) (x : Value) (s' : Shared) : Prop := R (.error x) s'
theorem cz_builtin {id : String} {args : Args} {b : Builtin} (hi : id ≠ "proto.yield_from") (hb : entryFor table id = some b) (h : wpAny (Mz P w) (A.under (.builtin id args)) (b args) (FinZ (Mz P w) A R) (ErrZ R) s) : codeAny (Mz P w) A (.builtin id args) R s := by
  refine codeAny_of_tree ?_
  rw [den_z hi hb]
  exact h
theorem cz_call_builtin {id : String} {args : Args} {b : Builtin} (hq : plainId id = true) (hi : id ≠ "proto.yield_from") (hb : entryFor table id = some b)
    (h : wpAny (Mz P w) A.in1 (checkBuiltinCall id args) (fun _ u => wpAny (Mz P w) A.in1 (b args) (FinZ (Mz P w) A R) (ErrZ R) u) (ErrZ R) s) : codeAny (Mz P w) A (.call (.builtin id) args) R s := by
  refine codeAny_of_tree ?_
  have h := h
  refine wpAny_bind (m := checkBuiltinCall id args) (f := fun _ => again (.builtin id args)) (wpAny_mono h (fun _ u hu => ?_) fun _ _ q => q)
  refine wpAny_pure ⟨plainId_quiet hq args, cz_builtin hi hb ?_⟩
  rw [Around.under_plainId hq args]
  exact hu
theorem wz_call_entry {E : Value → Shared → Prop} {T : String} {name : Str} {id : String} {b : Builtin} {self : Value} {rest : List Value} {Q : Value → Shared → Prop} (h : Slot T name id) (hT : s.TypeIs self T) (hi : id ≠ "proto.yield_from") (hb : entryFor table id = some b)
    (hc : wpAny (Mz P w) A.in1 (b ⟨self :: rest, []⟩) (fun fin u => ∃ v, fin = .done (.ret v) ∧ Q v u) E s) (ha : argsOk id ⟨self :: rest, []⟩) : wpAny (Mz P w) A (call (.builtin id) (self :: rest)) Q E s := by
  refine wpAny_call (cz_call_builtin h.plain hi hb (h.check _ _ _ _ _ _ _ _ hT ha (wpAny_mono hc (fun fin u q => ?_) fun _ _ q => q)))
  obtain ⟨v, rfl, hv⟩ := q
  exact hv
theorem cz_func {body : List Stmt} {env : Env} (h : wpAny (Mz P w) (A.deeper env) (execs body env) (fun f u => R (.ok (.ret (match f with | .ret v => v | _ => .none))) u) NoX s) : codeAny (Mz P w) A (.func body env) R s := by
  refine codeAny_of_tree ?_
  refine wpAny_bind (m := point) (wpAny_point ?_)
  refine wpAny_bind (m := (execs body env).onRaise (leaving env)) (wpAny_onRaise (wpAny_mono h (fun f u q => ?_) fun _ _ q => q.elim))
  cases f with
  | ret v => exact wpAny_pure q
  | next => exact wpAny_pure q
  | brk => exact wpAny_pure q
  | cont => exact wpAny_pure q
theorem cz_block {stmts : List Stmt} {env : Env} (h : wpAny (Mz P w) A (execs stmts env) (fun f u => R (.ok f) u) NoX s) : codeAny (Mz P w) A (.block stmts env) R s := by
  refine codeAny_of_tree ?_
  refine wpAny_bind (m := (execs stmts env).onRaise _) (wpAny_onRaise (wpAny_mono h (fun f u q => ?_) fun _ _ q => q.elim))
  exact wpAny_pure q
theorem cz_forLoop {target : Expr} {it : Value} {body : List Stmt} {env : Env} (I : Nat → Shared → Prop)
    (turn : ∀ n s, I n s → wpAny (Mz P w) A (pyNext it) (fun r u => match r with
      | none => R (.ok .next) u
      | some v => wpAny (Mz P w) A (letOwnedTupleGo target it v) (fun _ u1 => wpAny (Mz P w) A (assign target env v) (fun _ u2 => wpAny (Mz P w) A (execs body env) (fun f u3 => match f with
          | .next => ∃ m, m < n ∧ I m u3
          | .cont => ∃ m, m < n ∧ I m u3
          | .brk => R (.ok .next) u3
          | .ret v => R (.ok (.ret v)) u3) NoX u2) NoX u1) NoX u) NoX s) (n : Nat) (h : I n s) : codeAny (Mz P w) A (.forLoop target it body [] env) R s := by
  refine codeAny_loop' rfl I (fun n s hI => ?_) n h
  refine wpAny_onRaise (m := forTurn target it body [] env) ?_
  unfold forTurn
  refine wpAny_bind (wpAny_standAt (wpAny_bind (wpAny_onRaise (wpAny_mono (turn n s hI) (fun r u q => ?_) fun _ _ q => q.elim))))
  cases r with
  | none => exact wpAny_pure (.inr ⟨rfl, cz_block (wpAny_execs_nil q)⟩)
  | some v =>
    refine wpAny_bind (wpAny_mono q (fun _ u1 q1 => wpAny_bind (wpAny_mono q1 (fun _ u2 q2 => wpAny_bind (wpAny_mono q2 (fun f u3 q3 => ?_) fun _ _ q => q.elim)) fun _ _ q => q.elim)) fun _ _ q => q.elim)
    cases f with
    | next => exact wpAny_pure (.inl ⟨rfl, q3⟩)
    | cont => exact wpAny_pure (.inl ⟨rfl, q3⟩)
    | brk => exact wpAny_pure q3
    | ret v => exact wpAny_pure q3
theorem cz_while {test : Expr} {body : List Stmt} {env : Env} (I : Nat → Shared → Prop)
    (turn : ∀ n s, I n s → wpAny (Mz P w) A (isTrue test env (eval test env)) (fun b u => if b = true then wpAny (Mz P w) A (execs body env) (fun f u3 => match f with
          | .next => ∃ m, m < n ∧ I m u3
          | .cont => ∃ m, m < n ∧ I m u3
          | .brk => R (.ok .next) u3
          | .ret v => R (.ok (.ret v)) u3) NoX u else R (.ok .next) u) NoX s) (n : Nat) (h : I n s) : codeAny (Mz P w) A (.whileLoop test body [] env) R s := by
  refine codeAny_loop rfl I (fun n s hI => ?_) n h
  refine wpAny_onRaise (m := whileTurn test body [] env) ?_
  unfold whileTurn
  refine wpAny_bind (wpAny_mono (turn n s hI) (fun b u q => ?_) fun _ _ q => q.elim)
  cases b with
  | false =>
    rw [if_neg Bool.false_ne_true] at q ⊢
    exact wpAny_bind (wpAny_execs_nil (wpAny_pure q))
  | true =>
    rw [if_pos rfl] at q ⊢
    refine wpAny_bind (wpAny_mono q (fun f u3 q3 => ?_) fun _ _ q => q.elim)
    cases f with
    | next => exact wpAny_pure ⟨rfl, q3⟩
    | cont => exact wpAny_pure ⟨rfl, q3⟩
    | brk => exact wpAny_pure q3
    | ret v => exact wpAny_pure q3
/-- a def of one's own, or a generator def, is called -/
theorem cz_enter {a : Addr} {args : Args} {o : Obj} {fd : FuncData} {body : List Stmt} (hroom : A.depth < recursionLimit) (ho : s.heap.get? a = some o) (hd : o.data = .func fd) (hco : fd.scope.isCoroutine = false) (hbody : fd.body = .stmts body) (hcd : s.heap.CodeRec fd.code fd.qualname)
    (h : wpAny (Mz P w) A.in1 (bindArgs fd args) (fun bs u1 => wpAny (Mz P w) A.in1 (newFunctionEnv fd.scope fd.globals fd.closure bs (fd.qualname ++ ".<locals>.") (some a) fd.code none fd.builtins) (fun env u2 => u2.heap.NoLimit ∧
      (fd.scope.isGenerator = false → codeAny (Mz P w) A (.func body env) R u2) ∧ (fd.scope.isGenerator = true → R (.ok (.ret (.ref u2.heap.objs.size))) { u2 with gens := u2.gens.push (.fresh (.func body env)), toks := u2.toks + 1 + 1, heap := u2.heap.push { cls := .type "generator", data := .fields #[.int u2.gens.size 0, .str fd.name u2.toks, .str fd.qualname (u2.toks + 1)] } })) NoX u1) NoX s) : codeAny (Mz P w) A (.call (.ref a) args) R s := by
  refine codeAny_of_tree ?_
  show wpAny (Mz P w) _ (callAny (.ref a) args) _ _ s
  obtain ⟨c, oc, vs, tq, hc, hoc, hdc, hq⟩ := hcd
  rw [hc] at h
  simp only [callAny]
  refine wpAny_bind (wpAny_load ho ?_)
  cases hg : fd.scope.isGenerator with
  | false =>
    simp only [hd, callFunction, hco, hg, hbody, hc]
    refine wpAny_bind (m := field (.ref c) 1) (wpAny_field hoc hdc hq (wpAny_bind (wpAny_pure ?_)))
    refine wpAny_bind (wpAny_mono h (fun bs u1 q => wpAny_bind (wpAny_mono q (fun env u2 q2 => wpAny_bind (wpAny_enterFrame q2.1 hroom ?_)) fun _ _ q => q.elim)) fun _ _ q => q.elim)
    exact wpAny_pure ⟨rfl, q2.2.1 hg⟩
  | true =>
    simp only [hd, callFunction, hco, hg, hbody, hc]
    refine wpAny_bind (m := field (.ref c) 1) (wpAny_field hoc hdc hq (wpAny_bind (wpAny_pure ?_)))
    refine wpAny_bind (wpAny_mono h (fun bs u1 q => wpAny_bind (wpAny_mono q (fun env u2 q2 => wpAny_bind (wpAny_enterFrame q2.1 hroom ?_)) fun _ _ q => q.elim)) fun _ _ q => q.elim)
    simp only [newGenerator, newFields]
    refine wpAny_bind (wpAny_bind (wpAny_newGen (wpAny_bind (wpAny_mkText (wpAny_bind (wpAny_mkText ?_))))))
    exact wpAny_newObj_type (wpAny_pure (q2.2.2 hg)) (by size_fits)
end
end SG
namespace SG
open PySem PyProof.Rows L2
/-! ### the judgements over the other machine -/
abbrev Kp (s u : Shared) : Prop := KeepS s.gens u.gens ∧ ∀ B, MkS B s → MkS B u
theorem Kp.refl (s : Shared) : Kp s s := ⟨KeepS.refl _, fun _ h => h⟩
theorem Kp.trans {s u v : Shared} (a : Kp s u) (b : Kp u v) : Kp s v := ⟨a.1.trans b.1, fun B h => b.2 B (a.2 B h)⟩
abbrev XNo (X : Cx) : Prop := X.xe = fun _ _ => False
section
variable {s u : Shared} {Q : Shared → Prop}
theorem AslZ.no (h : AslZ s (fun _ => False) u) : False := let ⟨_, _, _, _, q⟩ := h.ex; q
theorem AslZ.kp (h : AslZ s Q u) : Kp s u := ⟨h.keep, h.mks⟩
end
section
variable {X : Cx} {pins : List (Addr × Obj)} {s : Shared} {σ : L2.St} {H : Hp}
theorem pss_kz {st : List Stmt} {t : TS} (h : PSs X st t) (hx : XNo X) {D : Ends} (I : Inv X pins σ H s) (ht : t D σ H) : wpAny (Mz X.prog X.w) X.A (execs st X.env) (fun f u => Kp s u ∧ SP X pins D f u) NoX s := by
  have h0 := h.run pins (outS s) σ H D (Inv.out I) ht
  rw [hx] at h0
  refine wpAny_mono (wpAny_z h0) (fun f u q => ?_) fun _ _ q => q.no
  obtain ⟨s', e, o, b, z⟩ := q.ex
  exact ⟨q.kp, SP.gensOf z e o (b I.bare)⟩
theorem ps_kz {st : Stmt} {t : TS} (h : PS X st t) (hx : XNo X) {D : Ends} (I : Inv X pins σ H s) (ht : t D σ H) : wpAny (Mz X.prog X.w) X.A (exec st X.env) (fun f u => Kp s u ∧ SP X pins D f u) NoX s := by
  have h0 := h.run pins (outS s) σ H D (Inv.out I) ht
  rw [hx] at h0
  refine wpAny_mono (wpAny_z h0) (fun f u q => ?_) fun _ _ q => q.no
  obtain ⟨s', e, o, b, z⟩ := q.ex
  exact ⟨q.kp, SP.gensOf z e o (b I.bare)⟩
theorem pg_kz {tg : Expr} {t : TG} (h : PG X tg t) (hx : XNo X) {v : V} {u : Value} {Q : L2.St → Hp → Prop} (I : Inv X pins σ H s) (r : RelV v u) (ht : t v σ H Q) :
    wpAny (Mz X.prog X.w) X.A (assign tg X.env u) (fun _ s' => Kp s s' ∧ ∃ σ' H', Inv X pins σ' H' s' ∧ Q σ' H') NoX s := by
  have h0 := h.run pins (outS s) σ H v u Q (Inv.out I) r ht
  rw [hx] at h0
  refine wpAny_mono (wpAny_z h0) (fun f u q => ?_) fun _ _ q => q.no
  obtain ⟨s', e, o, b, σ', H', I', z⟩ := q.ex
  exact ⟨q.kp, σ', H', Inv.gensOf I' e o (b I.bare I'.bare), z⟩
theorem pt_kz {e : Expr} {t : TT} (h : PT X e t) (hx : XNo X) {Q : Bool → Hp → Prop} (I : Inv X pins σ H s) (ht : t σ H Q) :
    wpAny (Mz X.prog X.w) X.A (isTrue e X.env (eval e X.env)) (fun v u => Kp s u ∧ TP X pins σ Q v u) NoX s := by
  have h0 := h.run pins (outS s) σ H Q (Inv.out I) ht
  rw [hx] at h0
  refine wpAny_mono (wpAny_z h0) (fun f u q => ?_) fun _ _ q => q.no
  obtain ⟨s', e, o, b, H', I', z⟩ := q.ex
  exact ⟨q.kp, H', Inv.gensOf I' e o (b I.bare I'.bare), z⟩
theorem pe_kz {e : Expr} {t : TE} (h : PE X e t) (hx : XNo X) {Q : VK} (I : Inv X pins σ H s) (ht : t σ H Q) :
    wpAny (Mz X.prog X.w) X.A (eval e X.env) (fun v u => Kp s u ∧ EP X pins σ Q v u) NoX s := by
  have h0 := h.run pins (outS s) σ H Q (Inv.out I) ht
  rw [hx] at h0
  refine wpAny_mono (wpAny_z h0) (fun f u q => ?_) fun _ _ q => q.no
  obtain ⟨s', e, o, b, v, H', I', r, z⟩ := q.ex
  exact ⟨q.kp, v, H', Inv.gensOf I' e o (b I.bare I'.bare), r, z⟩
theorem pa_kz {es : List Expr} {t : TA} (h : PA X es t) (hx : XNo X) {pos : Pos} {Q : List V → Hp → Prop} (I : Inv X pins σ H s) (ht : t σ H Q) :
    wpAny (Mz X.prog X.w) X.A (spliced (backTo pos (starEach es X.env))) (fun us u => Kp s u ∧ AP X pins σ Q us u) NoX s := by
  have h0 := h.run pos pins (outS s) σ H Q (Inv.out I) ht
  rw [hx] at h0
  refine wpAny_mono (wpAny_z h0) (fun f u q => ?_) fun _ _ q => q.no
  obtain ⟨s', e, o, b, v, H', I', r, z⟩ := q.ex
  exact ⟨q.kp, v, H', Inv.gensOf I' e o (b I.bare I'.bare), r, z⟩
theorem op_kz {f : Value → Value → Sem Value} {r : R2} (ho : OpR X f r) (hx : XNo X) {x y : V} {v u : Value} {Q : VK} (I : Inv X pins σ H s) (rx : RelV x v) (ry : RelV y u) (q : r x y H Q) :
    wpAny (Mz X.prog X.w) X.A (f v u) (fun z s' => Kp s s' ∧ EP X pins σ Q z s') NoX s := by
  have h0 := ho pins (outS s) σ H x y v u Q (Inv.out I) rx ry q
  rw [hx] at h0
  refine wpAny_mono (wpAny_z h0) (fun f u q => ?_) fun _ _ q => q.no
  obtain ⟨s', e, o, b, v, H', I', r, z⟩ := q.ex
  exact ⟨q.kp, v, H', Inv.gensOf I' e o (b I.bare I'.bare), r, z⟩
theorem wpAny_zr {P : Program} {w : World} {α : Type} {A : Around} {t : Sem α} {Q : α → Shared → Prop} {E : Value → Shared → Prop} {s : Shared} (h : wpAny (model P w) A t Q E (outS s)) :
    wpAny (Mz P w) A t (fun a u => Asl s.gens (TrQ (Q a)) u) (fun e u => Asl s.gens (TrQ (E e)) u) s := fun Γ p hΓ => by
  have h1 := wp_z Γ t (fun a _ s => Q a s) (fun e _ s => E e s) p (outS s) (h Γ p hΓ)
  rw [trS_out] at h1
  have h2 := wp_mix (Mz P w) Γ s.gens t _ _ p (outS s) (put_out s) h1
  rw [mix_out] at h2
  exact h2
theorem asl_wpz {P : Program} {w : World} {A : Around} {α : Type} {t : Sem α} {Q : α → Shared → Prop} {E : Value → Shared → Prop} {G : Array GenState} {u : Shared} (h : Asl G (TrQ fun s' => wpAny (model P w) A t Q E s') u) :
    wpAny (Mz P w) A t (fun a v => Asl G (TrQ (Q a)) v) (fun e v => Asl G (TrQ (E e)) v) u := by
  obtain ⟨s1, z, rfl, s', rfl, q⟩ := h
  intro Γ p hΓ
  have h1 := wp_z Γ t (fun a _ s => Q a s) (fun e _ s => E e s) p s' (q Γ p hΓ)
  exact wp_mix (Mz P w) Γ G t _ _ p (trS s') z h1
theorem asl_noz {G : Array GenState} {u : Shared} (h : Asl G (TrQ fun _ => False) u) : False := let ⟨_, _, _, _, _, q⟩ := h; q
theorem pi_kz {tg iter : Expr} {wi : TI} (h : PI X tg iter wi) (hx : XNo X) {R : It → Hp → Prop} (I : Inv X pins σ H s) (ht : wi σ H R) :
    wpAny (Mz X.prog X.w) X.A (eval iter X.env) (fun v s1 => wpAny (Mz X.prog X.w) X.A (pyIter v) (fun itv s2 => Kp s s2 ∧ PIE X pins σ tg R itv s2) NoX s1) NoX s := by
  have h0 := h.run pins (outS s) σ H R (Inv.out I) ht
  rw [hx] at h0
  refine wpAny_mono (wpAny_zr h0) (fun v u q => ?_) fun _ _ q => asl_noz q
  refine wpAny_mono (asl_wpz q) (fun itv u2 q2 => ?_) fun _ _ q => asl_noz q
  have q3 := AslZ.of q2
  obtain ⟨s', e, o, b, it, fp, tn, J, H', e1, I', T, t0, f, r⟩ := q3.ex
  exact ⟨q3.kp, it, fp, tn, J, H', e1, Inv.gensOf I' e o (b I.bare I'.bare), T, by rw [← e]; exact t0, f, r⟩
section
variable {P : Program} {w : World} {K : PySem.W.Frag} {tg : Expr} {J : It} {fp : List Addr} {it : Addr} {tn : Nat → Heap → Prop}
theorem item_kz (T : Turn P w K tg J fp it tn) {X : Cx} (h1 : X.prog = P) (h2 : X.w = w) (h3 : X.K = K) (h4 : X.calm = true) {i : Nat} {pins : List (Addr × Obj)} {s : Shared} {σ : L2.St} {H : Hp} (I : Inv X pins σ H s) (hf : ∀ b ∈ fp, FpOk X pins H b) (ht : tn i s.heap) (hg : J.go i H) :
    wpAny (Mz P w) X.A (pyNext (.ref it)) (fun r s1 => ∃ u, r = some u ∧ wpAny (Mz P w) X.A (letOwnedTupleGo tg (.ref it) u) (fun _ s2 => Kp s s2 ∧ ∃ x H', Inv X pins σ H' s2 ∧ RelV x u ∧ J.yld i H x H' ∧ tn (i + 1) s2.heap ∧ ∀ b ∈ fp, H' b = none) NoX s1) NoX s := by
  have h0 := T.item X h1 h2 h3 h4 i pins (outS s) σ H NoX (Inv.out I) hf ht hg
  refine wpAny_mono (wpAny_zr h0) (fun r u q => ?_) fun _ _ q => asl_noz q
  obtain ⟨s1, z, rfl, s', rfl, v, hr, q⟩ := q
  refine ⟨v, hr, wpAny_mono (asl_wpz ⟨_, z, rfl, s', rfl, q⟩) (fun _ u2 q2 => ?_) fun _ _ q => asl_noz q⟩
  have q3 := AslZ.of q2
  obtain ⟨s2, e, o, b, x, H', I', r', y, t', f'⟩ := q3.ex
  exact ⟨q3.kp, x, H', Inv.gensOf I' e o (b I.bare I'.bare), r', y, by rw [← e]; exact t', f'⟩
theorem done_kz (T : Turn P w K tg J fp it tn) {X : Cx} (h1 : X.prog = P) (h2 : X.w = w) (h3 : X.K = K) (h4 : X.calm = true) {i : Nat} {pins : List (Addr × Obj)} {s : Shared} {σ : L2.St} {H : Hp} (I : Inv X pins σ H s) (hf : ∀ b ∈ fp, FpOk X pins H b) (ht : tn i s.heap) (hg : J.stop i H) :
    wpAny (Mz P w) X.A (pyNext (.ref it)) (fun r s1 => r = none ∧ Kp s s1 ∧ Inv X pins σ H s1) NoX s := by
  have h0 := T.done X h1 h2 h3 h4 i pins (outS s) σ H NoX (Inv.out I) hf ht hg
  refine wpAny_mono (wpAny_z h0) (fun r u q => ?_) fun _ _ q => q.no
  obtain ⟨s2, e, o, b, hr, I'⟩ := q.ex
  exact ⟨hr, q.kp, Inv.gensOf I' e o (b I.bare I'.bare)⟩
end
end
structure PEz (X : Cx) (e : Expr) (t : TE) : Prop where
  run : ∀ (B : List Mark) (pins : List (Addr × Obj)) (s : Shared) (σ : L2.St) (H : Hp) (Q : VK), MkS B s → Inv X pins σ H s → t σ H Q → wpAny (Mz X.prog X.w) X.A (eval e X.env) (fun v u => MkS B u ∧ EP X pins σ Q v u) NoX s
structure PTz (X : Cx) (e : Expr) (t : TT) : Prop where
  run : ∀ (B : List Mark) (pins : List (Addr × Obj)) (s : Shared) (σ : L2.St) (H : Hp) (Q : Bool → Hp → Prop), MkS B s → Inv X pins σ H s → t σ H Q → wpAny (Mz X.prog X.w) X.A (isTrue e X.env (eval e X.env)) (fun v u => MkS B u ∧ TP X pins σ Q v u) NoX s
structure PSz (X : Cx) (st : Stmt) (t : TS) : Prop where
  run : ∀ (B : List Mark) (pins : List (Addr × Obj)) (s : Shared) (σ : L2.St) (H : Hp) (D : Ends), MkS B s → Inv X pins σ H s → t D σ H → wpAny (Mz X.prog X.w) X.A (exec st X.env) (fun f u => MkS B u ∧ SP X pins D f u) NoX s
structure PSsz (X : Cx) (st : List Stmt) (t : TS) : Prop where
  run : ∀ (B : List Mark) (pins : List (Addr × Obj)) (s : Shared) (σ : L2.St) (H : Hp) (D : Ends), MkS B s → Inv X pins σ H s → t D σ H → wpAny (Mz X.prog X.w) X.A (execs st X.env) (fun f u => MkS B u ∧ SP X pins D f u) NoX s
section
variable {X : Cx} {st : Stmt} {rest : List Stmt} {t u : TS} {pos : Pos}
theorem zs_ps (hx : XNo X) (h : PS X st t) : PSz X st t := ⟨fun B pins s σ H D m I ht => wpAny_mono (ps_kz h hx I ht) (fun f u q => ⟨q.1.2 B m, q.2⟩) fun _ _ q => q⟩
theorem zs_pss (hx : XNo X) (h : PSs X rest t) : PSsz X rest t := ⟨fun B pins s σ H D m I ht => wpAny_mono (pss_kz h hx I ht) (fun f u q => ⟨q.1.2 B m, q.2⟩) fun _ _ q => q⟩
theorem ze_pe {e : Expr} {t : TE} (hx : XNo X) (h : PE X e t) : PEz X e t := ⟨fun B pins s σ H Q m I ht => wpAny_mono (pe_kz h hx I ht) (fun f u q => ⟨q.1.2 B m, q.2⟩) fun _ _ q => q⟩
theorem zs_nil : PSsz X [] tNext := ⟨fun B pins s σ H D m I ht => wpAny_execs_nil ⟨m, σ, H, I, ht⟩⟩
theorem zs_cons (h1 : PSz X st t) (h2 : PSsz X rest u) : PSsz X (st :: rest) (tSeq t u) := by
  refine ⟨fun B pins s σ H D m I ht => ?_⟩
  refine wpAny_execs_cons (wpAny_mono (h1.run B pins s σ H { D with nx := u D } m I ht) (fun f s1 q => ?_) fun _ _ q => q)
  obtain ⟨m1, q⟩ := q
  cases f with
  | next => obtain ⟨σ', H', I', q⟩ := q; exact h2.run B pins s1 σ' H' D m1 I' q
  | ret v => exact ⟨m1, q⟩
  | brk => exact ⟨m1, q⟩
  | cont => exact ⟨m1, q⟩
theorem zs_cut (h1 : PSz X st t) (h2 : PSsz X rest u) : PSsz X (st :: rest) (C8.tCut t u) := by
  refine ⟨fun B pins s σ H D m I ht => ?_⟩
  obtain ⟨Mid, hm, hu⟩ := ht
  refine wpAny_execs_cons (wpAny_mono (h1.run B pins s σ H { D with nx := Mid } m I hm) (fun f s1 q => ?_) fun _ _ q => q)
  obtain ⟨m1, q⟩ := q
  cases f with
  | next => obtain ⟨σ', H', I', q⟩ := q; exact h2.run B pins s1 σ' H' D m1 I' (hu _ _ q)
  | ret v => exact ⟨m1, q⟩
  | brk => exact ⟨m1, q⟩
  | cont => exact ⟨m1, q⟩
theorem zs_one (h1 : PSz X st t) : PSsz X [st] t := by
  refine ⟨fun B pins s σ H D m I ht => ?_⟩
  refine wpAny_execs_cons (wpAny_mono (h1.run B pins s σ H D m I ht) (fun f s1 q => ?_) fun _ _ q => q)
  cases f with
  | next => exact wpAny_execs_nil q
  | ret v => exact q
  | brk => exact q
  | cont => exact q
theorem zs_if {c : Expr} {a b : List Stmt} {tc : TT} (hc : PTz X c tc) (ha : PSsz X a t) (hb : PSsz X b u) : PSz X (.If c a b pos) (tIfS tc t u) := by
  refine ⟨fun B pins s σ H D m I ht => ?_⟩
  refine wpAny_If (wpAny_mono (hc.run B pins s σ H _ m I ht) (fun d s1 q => ?_) fun _ _ q => q)
  obtain ⟨m1, H1, I1, q⟩ := q
  cases d with
  | true => exact ha.run B pins s1 σ H1 D m1 I1 q
  | false => exact hb.run B pins s1 σ H1 D m1 I1 q
theorem zt_cmp {op : CmpOp} {r : R2} {a b : Expr} {ta tb : TE} (hx : XNo X) (ho : OpR X (compareOp op) r) (ha : PEz X a ta) (hb : PEz X b tb) (hm : behindInMarks op b = false) : PTz X (.Compare a [op] [b] pos) (tTest (tOp r ta tb)) := by
  refine ⟨fun B pins s σ H Q m I ht => ?_⟩
  refine wpAny_isTrue_Compare1 (wpAny_mono (ha.run B pins s σ H _ m I ht) (fun v s1 ⟨m1, x, H1, I1, r1, q1⟩ => wpAny_mono (hb.run B pins s1 σ H1 _ m1 I1 q1) (fun u s2 ⟨m2, y, H2, I2, r2, q2⟩ =>
    wpAny_mono (op_kz ho hx I2 r1 r2 q2) (fun c s3 ⟨k3, z, H3, I3, r3, k, e, q3⟩ => ?_) fun _ _ q => q) fun _ _ q => q) fun _ _ q => q) hm
  subst e
  cases r3
  exact wpAny_truthy_bool ⟨k3.2 B m2, H3, I3, q3⟩
theorem zs_ret {e : Expr} {te : TE} (he : PEz X e te) : PSz X (.Return (some e) pos) (tRet te) := by
  refine ⟨fun B pins s σ H D m I ht => ?_⟩
  refine wpAny_Return_some (wpAny_mono (he.run B pins s σ H _ m I ht) (fun v s1 q => ?_) fun _ _ q => q)
  obtain ⟨m1, x, H1, I1, r, q⟩ := q
  exact ⟨m1, x, σ, H1, I1, r, q⟩
theorem zs_set {i : Nat} {x : Str} {e : Expr} {te : TE} {pos' : Pos} (hN : X.N.Nodup) (hi : X.N[i]? = some x) (hx : Loc X.env.scope x) (he : PEz X e te) (hs : swapsWith e (some (.Name x pos')) pos.line X.env = pure false := by rfl) (hf : X.fn x = true ∨ X.env.scope.names.lookup x = some .local := by first | exact .inl rfl | exact .inr rfl | assumption) :
    PSz X (.Assign [.Name x pos'] e pos) (tAsg te (gName i)) := by
  refine ⟨fun B pins s σ H D m I ht => ?_⟩
  refine wpAny_Assign_Name (wpAny_mono (he.run B pins s σ H _ m I ht) (fun v s1 q => ?_) fun _ _ q => q) hs
  obtain ⟨m1, y, H1, I1, r1, q1⟩ := q
  refine wpAny_mono (wpAny_z (store_ok (M := model X.prog X.w) (E := NoX) (Q := fun _ s' => Inv X pins (σ.set i (some y)) H1 s') (Inv.out I1) hN hi hx r1 (fun s2 I2 => I2) hf)) (fun _ s2 q => ?_) fun _ _ q => q.no
  obtain ⟨s', e, o, b, I2⟩ := q.ex
  exact ⟨q.mks B m1, _, H1, Inv.gensOf I2 e o (b I1.bare I2.bare), q1⟩
/-- for over what walks, its body of the other machine -/
theorem zs_for {tg iter : Expr} {body : List Stmt} {wi : TI} {g : TG} {tb : TS} (hx : XNo X) (hc : X.calm = true) (hi : PI X tg iter wi) (hg : PG X tg g) (hb : PSsz X body tb) (hs : ∀ x, foldedSetIterable iter X.env x = pure x := by intro _; rfl) :
    PSz X (.For tg iter body [] pos) (tFor wi g tb) := by
  refine ⟨fun B pins s σ H D m I ht => ?_⟩
  refine wpAny_For (wpAny_mono (pi_kz hi hx I ht) (fun v s1 h1 => wpAny_mono h1 (fun itv s2 h2 => ?_) fun _ _ q => q) fun _ _ q => q) hs
  obtain ⟨k2, it, fp, tn, J, H2, e, I2, T, st2, f2, W, ⟨m0, w0⟩, turn⟩ := h2
  subst e
  have stat : ∀ {H' : Hp}, (∀ b ∈ fp, H' b = none) → ∀ b ∈ fp, FpOk X pins H' b := fun hn b hb => ⟨hn b hb, (f2 b hb).2⟩
  refine cz_forLoop (fun n s' => ∃ i σ' H', MkS B s' ∧ Inv X pins σ' H' s' ∧ tn i s'.heap ∧ (∀ b ∈ fp, H' b = none) ∧ W i n σ' H') ?_ m0 ⟨0, σ, H2, k2.2 B m, I2, st2, fun b hb => (f2 b hb).1, w0⟩
  rintro n s3 ⟨i, σ3, H3, m3, I3, st3, fr3, w3⟩
  rcases turn i n σ3 H3 w3 with ⟨stop, qn⟩ | ⟨go, N, hN, step⟩
  · refine wpAny_mono (done_kz T rfl rfl rfl hc I3 (stat fr3) st3 stop) (fun r s4 ⟨hr, k4, I4⟩ => ?_) fun _ _ q => q
    subst hr
    exact ⟨k4.2 B m3, σ3, H3, I4, qn⟩
  · refine wpAny_mono (item_kz T rfl rfl rfl hc I3 (stat fr3) st3 go) (fun r s4 ⟨u, hr, h4⟩ => ?_) fun _ _ q => q
    subst hr
    refine wpAny_mono h4 (fun _ s5 ⟨k5, x, H5, I5, r5, y5, st5, fr5⟩ => ?_) fun _ _ q => q
    have I5' := I5.pinned (stat fr5) (T.obj _ _ st5)
    refine wpAny_mono (pg_kz hg hx I5' r5 (step x H5 y5)) (fun _ s6 ⟨k6, σ6, H6, I6, q6⟩ => ?_) fun _ _ q => q
    refine wpAny_mono (hb.run B _ s6 σ6 H6 _ (k6.2 B (k5.2 B m3)) I6 q6) (fun f s7 ⟨m7, q7⟩ => ?_) fun _ _ q => q
    have again : ∀ {σ7 : L2.St} {H7 : Hp}, Inv X (pins ++ pinsAt fp s5.heap) σ7 H7 s7 → N σ7 H7 → ∃ m, m < n ∧ ∃ i σ' H', MkS B s7 ∧ Inv X pins σ' H' s7 ∧ tn i s7.heap ∧ (∀ b ∈ fp, H' b = none) ∧ W i m σ' H' := fun {σ7 H7} I7 n7 => by
      obtain ⟨m', hm, w7⟩ := hN σ7 H7 n7
      have at7 : ∀ b ∈ fp, ∀ o, s5.heap.get? b = some o → s7.heap.get? b = some o ∧ H7 b = none := fun b hb o e => by
        have z := I7.pin (b, o) (List.mem_append_right _ (List.mem_append_right _ (mem_pinsAt hb e)))
        exact ⟨z.1, z.2.1⟩
      refine ⟨m', hm, i + 1, σ7, H7, m7, I7.unpinned, T.keep _ _ _ st5 fun b hb o e => (at7 b hb o e).1, fun b hb => ?_, w7⟩
      obtain ⟨o, e, d⟩ := T.obj _ _ st5 b hb
      exact (at7 b hb o e).2
    cases f with
    | next => obtain ⟨σ7, H7, I7, n7⟩ := q7; exact again I7 n7
    | cont => obtain ⟨σ7, H7, I7, n7⟩ := q7; exact again I7 n7
    | brk => obtain ⟨σ7, H7, I7, q7⟩ := q7; exact ⟨m7, σ7, H7, I7.unpinned, q7⟩
    | ret v => obtain ⟨x7, σ7, H7, I7, r7, q7⟩ := q7; exact ⟨m7, x7, σ7, H7, I7.unpinned, r7, q7⟩
end
end SG
namespace SG
open PySem PyProof.Rows L2
/-! ### defs of the other machine -/
abbrev NoE : XK := fun _ _ _ => False
/-- a def that raises nothing -/
structure FnOkz (P : Program) (w : World) (K : PySem.W.Frag) (mg : Str → Option Value) (base : Heap) (k : Nat) (f : Addr) (fd : FuncData) (ps : List Str) (sp : Sp) : Prop where
  len : ∀ vs H Q E, sp vs H Q E → vs.length = ps.length
  run : ∀ (B : List Mark) (A : Around) (outer : List Env) (s : Shared) (H : Hp) (args : Args) (us : List Value) (vs : List V) (Q : VK) (E : XK), MkS B s → Room k A → Env0 P w K mg base A outer s H → BindsTo s fd args (ps.zip us) → Vals vs us → sp vs H Q E →
    codeAny (Mz P w) A (.call (.ref f) args) (fun r s' => match r with
      | .ok (.ret u) => MkS B s' ∧ CE outer P w H s Q u s'
      | _ => False) s
theorem Env0.out {P : Program} {w : World} {K : PySem.W.Frag} {mg : Str → Option Value} {base : Heap} {A : Around} {outer : List Env} {s : Shared} {H : Hp} (e : Env0 P w K mg base A outer s H) : Env0 P w K mg base A outer (outS s) H :=
  ⟨e.frames, e.mod, e.bs, e.bsz, e.funs, e.frf, e.hok, bare_out e.bare⟩
section
variable {P : Program} {w : World} {K : PySem.W.Frag} {mg : Str → Option Value} {base : Heap} {k : Nat} {f : Addr} {fd : FuncData} {ps : List Str} {sp : Sp}
theorem FnOkz.mono {j : Nat} (F : FnOkz P w K mg base j f fd ps sp) (h : j ≤ k) : FnOkz P w K mg base k f fd ps sp :=
  ⟨F.len, fun B A outer s H args us vs Q E m hr => F.run B A outer s H args us vs Q E m (hr.mono h)⟩
/-- what a plain def promises -/
theorem FnOkz.of (F : FnOk P w K mg base CX0 k f fd ps sp) (hbo : ∀ (s : Shared) (args : Args) (bs : List (Str × Value)), BindsTo s fd args bs → BindsTo (outS s) fd args bs) : FnOkz P w K mg base k f fd ps sp :=
  ⟨F.len, fun B A outer s H args us vs Q E m hr e0 hb r hs => codeAny_mono (codeAny_z (F.run A outer (outS s) H args us vs Q E hr (Env0.out e0) (hbo _ _ _ hb) r hs)) fun r s' q => by
    obtain ⟨s1, e, o, b, z⟩ := q.ex
    cases r with
    | error e => exact z.elim
    | ok fl => cases fl with
      | ret u =>
        obtain ⟨v, H', os, bare, un, hok, r', q'⟩ := z
        refine ⟨q.mks B m, v, H', o.symm.trans os, b e0.bare bare, ?_, ?_, r', q'⟩
        · rw [← e]; exact un
        · rw [← e]; exact hok
      | next => exact z.elim
      | brk => exact z.elim
      | cont => exact z.elim⟩
end
section
variable {X : Cx} {k : Nat} {f : Addr} {fd : FuncData} {ps : List Str} {sp : Sp} {dvs : List V} {ds : List Value} {x : Str} {p pos : Pos} {e : Expr} {es : List Expr} {t : TA} {E : XK}
theorem ze_call (hX : XNo X) (F : FnOkz X.prog X.w X.K X.mg X.base k f fd ps sp) (hr : Room k X.A) (hg : Gl X x) (hm : X.mg x = some (.ref f)) (hk : PySem.W.keepIn X.K (.ref f) = true) (hb : Binds X.K fd ps ds) (hd : Vals dvs ds)
    (ha : PA X (e :: es) t) (hdb : (x == ("__debug__" : Str)) = false := by decide) (he : starEach (e :: es) X.env = (false, eval e X.env) :: starEach es X.env := by rfl) (hpl : (backTo pos (starEach es X.env)).any (·.1) = false := by rfl) :
    PEz X (.Call (.Name x p) (e :: es) [] pos) (tCall sp dvs E t) := by
  refine ⟨fun B pins s σ H Q m I h => ?_⟩
  have ld : ∀ {Q0 : Value → Shared → Prop}, Q0 (.ref f) s → wpAny (Mz X.prog X.w) X.A (eval (.Name x p) X.env) Q0 NoX s := fun {Q0} h =>
    Calls.Name_function_global I.ok.kind hg (Calls.loadGlobal_global (by rw [I.ok.glob]; exact I.mod.glob.keeps I.bk) hm h) hdb
  refine wpAny_Call_Name_kw (ld ?_)
  refine PySem.W.callWith_K (h₀ := X.base) I.ok.mod.kin hk (wpAny_mono (pa_kz ha hX I h) (fun us s1 q => ?_) fun _ _ q => q) he hpl
  obtain ⟨k1, vs, H1, I1, r, q⟩ := q
  refine ⟨I1.kIn, ?_⟩
  have r2 : Vals (vs ++ dvs) (us ++ ds) := r.append hd
  have hl : (us ++ ds).length = ps.length := by rw [← r2.length]; exact F.len _ _ _ _ q
  refine wpAny_call (codeAny_mono (F.run B X.A X.stack s1 H1 ⟨us, []⟩ (us ++ ds) (vs ++ dvs) Q E (k1.2 B m) hr I1.env0 (hb s1 us I1.kIn hl) r2 q) fun r s' hq => ?_)
  cases r with
  | error e => exact hq
  | ok fl =>
    cases fl with
    | ret u => exact ⟨hq.1, I1.after hq.2⟩
    | next => exact hq
    | brk => exact hq
    | cont => exact hq
end
/-- a def by its body -/
theorem fz_of {P : Program} {w : World} {K : PySem.W.Frag} {mg : Str → Option Value} {base : Heap} {k : Nat} {f : Addr} {name qual : Str} {params : Arguments} {body : List Stmt} {scope : Scope} {dV kV doc pm cdv ct oc : Value} {an od : Option Addr}
    {osl : Array (Option Value)} {N ps : List Str} {sp : Sp} (lk : K.lookup f = some ⟨oc, od, .func (PySem.W.fnOf name qual params body scope dV kV doc pm an cdv ct), osl⟩) (hcd : PySem.W.codeIn K cdv qual = true) (S : FnScope N ps scope)
    (len : ∀ vs H Q E, sp vs H Q E → vs.length = ps.length)
    (hbody : ∀ (A : Around) (outer : List Env) (s : Shared) (H : Hp) (vs : List V) (Q : VK) (E : XK), Room k (A.deeper (envOfC qual scope s.heap.objs.size f cdv)) → sp vs H Q E →
      ∃ t, PSsz (cxOf CX0 P w K mg base N qual scope f cdv A outer s H E).nox body t ∧ t { nx := fun _ H' => Q .non H', rt := Q } (start N vs) H) :
    FnOkz P w K mg base (k + 1) f (PySem.W.fnOf name qual params body scope dV kV doc pm an cdv ct) ps sp := by
  refine ⟨len, fun B A outer s H args us vs Q E m hr e0 hb r hsp => ?_⟩
  have hl := len _ _ _ _ hsp
  have KX : K.In s.heap := e0.mod.kin.keeps fun b o e => (e0.bs b o e).1
  have lim : s.heap.NoLimit := e0.mod.nolimit.keeps fun b o e => (e0.bs b o e).1
  have hkind : ∀ y ∈ ps.zip us, scope.names.lookup y.1 = some .local ∨ (scope.names.lookup y.1 = some .cell ∧ ((cellsFrom (s.heap.objs.size + 1) scope.names []).lookup y.1).isSome = true) := by
    rintro ⟨n, v⟩ hy
    rcases S.par n (List.of_mem_zip hy).1 with q | q
    · exact .inl q
    · exact .inr ⟨q, PySem.W.cellsFrom_some _ _ _ (.inl q)⟩
  refine cz_enter hr.depth (KX _ _ lk) rfl S.co rfl (PySem.W.codeRec_of KX hcd) (hb _ _ _ _ ?_)
  refine wpAny_newFunctionEnv_cells S.kind hkind fun env he s1 x => ?_
  subst he
  refine ⟨lim.keeps x.toInCall.keep, fun _ => cz_func ?_, fun z => ?_⟩
  · obtain ⟨t, ht, hq⟩ := hbody A outer s H vs Q E (hr.deeper _) hsp
    have I : Inv (cxOf CX0 P w K mg base N qual scope f cdv A outer s H E).nox [] (start N vs) H s1 := (inv_start (CX := CX0) S hr.hd e0 hl r x).wish _
    have m1 : MkS B s1 := by
      obtain ⟨h1, tk, es1, hk1⟩ := x.done
      exact m.same (by rw [es1])
    refine wpAny_mono (ht.run B [] s1 (start N vs) H _ m1 I hq) (fun fl s' hs => ?_) fun _ _ q => q
    obtain ⟨m', hs⟩ := hs
    have fin : ∀ {σ' : L2.St} {H' : Hp} {v : V} {u : Value}, Inv (cxOf CX0 P w K mg base N qual scope f cdv A outer s H E).nox [] σ' H' s' → RelV v u → Q v H' → CE outer P w H s Q u s' :=
      fun {σ' H' v u} J rv q => ⟨v, H', J.os, J.bare, J.base, J.hok, rv, q⟩
    cases fl with
    | ret u =>
      obtain ⟨v, σ', H', J, rv, q⟩ := hs
      exact ⟨m', fin J rv q⟩
    | next =>
      obtain ⟨σ', H', J, q⟩ := hs
      exact ⟨m', fin (v := V.non) (u := Value.none) J rfl q⟩
    | brk => obtain ⟨_, _, _, q⟩ := hs; exact q.elim
    | cont => obtain ⟨_, _, _, q⟩ := hs; exact q.elim
  · rw [S.gen] at z; cases z
theorem okz {P : Program} {w : World} {K : PySem.W.Frag} {mg : Str → Option Value} {base : Heap} {x qual : Str} {st : Stmt} {f : Addr} {fd : FuncData} {N ps : List Str} {k : Nat} {sp : Sp} (F : Fun K x qual st f fd) (S : FnScope N ps (defScope st)) (len : ∀ vs H Q E, sp vs H Q E → vs.length = ps.length)
    (hbody : ∀ (cdv : Value) (A : Around) (outer : List Env) (s : Shared) (H : Hp) (vs : List V) (Q : VK) (E : XK), Room k (A.deeper (envOfC qual (defScope st) s.heap.objs.size f cdv)) → sp vs H Q E →
      ∃ t, PSsz (cxOf CX0 P w K mg base N qual (defScope st) f cdv A outer s H E).nox (defBody st) t ∧ t { nx := fun _ H' => Q .non H', rt := Q } (start N vs) H) : FnOkz P w K mg base (k + 1) f fd ps sp := by
  obtain ⟨oc, od, kV, doc, pm, an, cdv, ct, osl, rfl, lk, hcd⟩ := F.ex
  exact fz_of lk hcd S len fun A outer s H vs Q E hr hsp => hbody cdv A outer s H vs Q E hr hsp
end SG
namespace SG
open PySem L2
open Sem (wp)
/-! ### one stretch of a generator's run: until it ends or hands something out -/
abbrev Ret1 := Result → Shared → Prop
abbrev Yld1 := Value → (Resume → Sem PySem.Fin) → Code → List Frame → Shared → Prop
def End1 (R : Ret1) (Y : Yld1) : End → Shared → Prop
  | .ret r, s => R r s
  | .susp v g l k c p fs, s => (End.susp v g l k c p fs).quiet = true ∧ Y v k c fs s
def R1 (M : Model) (A : Around) (R : Ret1) (Y : Yld1) (c : Code) (t : Sem PySem.Fin) (fs : List Frame) (s : Shared) : Prop :=
  ∀ Γ p, Γ.code = c → Γ.Woken A → ∃ e s', Runs M Γ p t fs s e s' ∧ End1 R Y e s'
section
variable {M : Model} {A : Around} {R : Ret1} {Y : Yld1} {c : Code} {fs : List Frame} {s : Shared} {α β : Type}
theorem r1_wrapX {m : Sem α} {K : α → Sem PySem.Fin} {H : Value → Sem PySem.Fin} {gd lv} (h : wpAny M (A.over c fs) m (fun a s' => R1 M A R Y c (K a) fs s') (fun x s' => R1 M A R Y c (H x) fs s') s) : R1 M A R Y c (m.wrap K H gd lv) fs s := by
  rintro Γ p rfl hΓ
  exact runs_wrap_of_wp K H gd lv m (h (Γ.over fs) p (hΓ.over fs)) (fun a p' s' h' => h' Γ p' rfl hΓ) (fun x p' s' h' => h' Γ p' rfl hΓ)
theorem r1_wrap {m : Sem α} {K : α → Sem PySem.Fin} {H : Value → Sem PySem.Fin} {gd lv} (h : wpAny M (A.over c fs) m (fun a s' => R1 M A R Y c (K a) fs s') NoX s) : R1 M A R Y c (m.wrap K H gd lv) fs s :=
  r1_wrapX (wpAny_mono h (fun _ _ q => q) fun _ _ q => q.elim)
theorem r1_bind {m : Sem α} {K : α → Sem PySem.Fin} (h : wpAny M (A.over c fs) m (fun a s' => R1 M A R Y c (K a) fs s') NoX s) : R1 M A R Y c (m >>= K) fs s := by
  rw [Sem.bind_eq_wrap']; exact r1_wrap h
theorem r1_bindX {m : Sem α} {K : α → Sem PySem.Fin} (h : wpAny M (A.over c fs) m (fun a s' => R1 M A R Y c (K a) fs s') (fun x s' => R1 M A R Y c (.raise x) fs s') s) : R1 M A R Y c (m >>= K) fs s := by
  rw [Sem.bind_eq_wrap']; exact r1_wrapX h
theorem r1_bind_wrap {m : Sem α} {K : α → Sem β} {K' : β → Sem PySem.Fin} {H' : Value → Sem PySem.Fin} {gd lv} (h : wpAny M (A.over c fs) m (fun a s' => R1 M A R Y c ((K a).wrap K' H' gd lv) fs s') NoX s) : R1 M A R Y c ((m >>= K).wrap K' H' gd lv) fs s := by
  rw [Sem.bind_eq_wrap', Sem.wrap_wrap]; exact r1_wrap h
theorem r1_bind2 {γ : Type} {m : Sem α} {f : α → Sem β} {f2 : β → Sem γ} {K : γ → Sem PySem.Fin} {J : Value → Sem PySem.Fin} {gd : Bool → Bool} {lv : List Value → List Value}
    (h : wpAny M (A.over c fs) m (fun a s' => R1 M A R Y c ((f a).wrap (fun b => (f2 b).wrap K J gd lv) J gd lv) fs s') NoX s) : R1 M A R Y c (((m >>= f) >>= f2).wrap K J gd lv) fs s := by
  rw [Sem.bind_eq_wrap' (m >>= f) f2, Sem.wrap_wrap]
  exact r1_bind_wrap h
theorem r1_at {p' : Pos} {k : Unit → Sem PySem.Fin} (h : R1 M A R Y c (k ()) fs s) : R1 M A R Y c (.at p' k) fs s :=
  r1_wrap (m := standAt p') (K := k) (H := .raise) (gd := id) (lv := id) (wpAny_standAt h)
theorem r1_point {l : List Value} {k : Unit → Sem PySem.Fin} (h : R1 M A R Y c (k ()) fs s) : R1 M A R Y c (.point l k) fs s :=
  r1_wrap (m := point) (K := k) (H := .raise) (gd := id) (lv := fun _ => l) (wpAny_point h)
theorem r1_rule {tag : String} {k : Unit → Sem PySem.Fin} (h : R1 M A R Y c (k ()) fs s) : R1 M A R Y c (.rule tag k) fs s :=
  r1_wrap (m := rule tag) (K := k) (H := .raise) (gd := id) (lv := id) (wpAny_rule h)
theorem r1_call {c' : Code} {h g l} {k : Result → Sem PySem.Fin} (hc : ∀ p, R1 M A R Y c' (M.den c') (.ret k h g l c p [] :: fs) s) : R1 M A R Y c (.call c' h g l k) fs s := by
  rintro Γ p rfl hΓ
  obtain ⟨e, s', hr, he⟩ := hc p (Γ.goto c') p rfl (hΓ.goto c')
  exact ⟨e, s', runs_call_seg hr, he⟩
theorem r1_leaf {k h g l c₁ p₁ kp} (r : Result) (hk : R1 M A R Y c₁ (k r) fs s) : R1 M A R Y c (leafOf r) (.ret k h g l c₁ p₁ kp :: fs) s := by
  rintro Γ p rfl hΓ
  obtain ⟨e, s', hr, he⟩ := hk (Γ.goto c₁) p₁ rfl (hΓ.goto c₁)
  exact ⟨e, s', Runs.pop r hr, he⟩
theorem r1_again {c' : Code} (hq : c'.quiet = true) (hc : R1 M A R Y c' (M.den c') fs s) : R1 M A R Y c (.pure (.again c')) fs s := by
  rintro Γ p rfl hΓ
  obtain ⟨e, s', hr, he⟩ := hc (Γ.goto c') p rfl (hΓ.goto c')
  exact ⟨e, s', Runs.head (c₁ := c') (fun _ _ x => .again hq x) hr, he⟩
theorem r1_end (r : Result) (h : R r s) : R1 M A R Y c (leafOf r) [] s := by
  rintro Γ p rfl _
  exact ⟨.ret r, s, Runs.leaf r, h⟩
theorem r1_yield {v g l} {k : Resume → Sem PySem.Fin} (hfs : splitAtGen fs = none) (hg : g = false) (hfg : fs.any Frame.guarded = false) (h : Y v k c fs s) : R1 M A R Y c (.yield v g l k) fs s := by
  rintro Γ p rfl _
  exact ⟨_, s, Runs.yield' fs hfs, by simp [End.quiet, hg, hfg], h⟩
theorem r1_mono {R' : Ret1} {Y' : Yld1} {t : Sem PySem.Fin} (h : R1 M A R Y c t fs s) (hR : ∀ r s, R r s → R' r s) (hY : ∀ v k c fs s, Y v k c fs s → Y' v k c fs s) : R1 M A R' Y' c t fs s := fun Γ p e hΓ => by
  obtain ⟨e, s', hr, he⟩ := h Γ p e hΓ
  refine ⟨e, s', hr, ?_⟩
  cases e with
  | ret r => exact hR r s' he
  | susp v g l k c p fs => exact ⟨he.1, hY _ _ _ _ _ he.2⟩
end
/-- a generator in this state goes on -/
def Goes1 (M : Model) (A : Around) (R : Ret1) (Y : Yld1) (r : Resume) (s : Shared) : GenState → Prop
  | .fresh c => r = .send .none ∧ R1 M A R Y c (M.den c) [] s
  | .suspended k _ c _ fs _ => R1 M A R Y c (k r) fs s
  | _ => False
theorem wpAny_resume1 {M : Model} {A : Around} {R : Ret1} {Y : Yld1} {E : Value → Shared → Prop} {s : Shared} {g : Nat} {gs : GenState} {r : Resume} {l : List Value} {α : Type} {k : GenResult → Sem α} {Q : α → Shared → Prop} (hg : s.gens[g]? = some gs)
    (hgo : Goes1 M A R Y r (s.setGen g .running) gs) (hR : ∀ x s₁, R x s₁ → wpAny M A (k (End.ret x).result) Q E (s₁.setGen g .finished))
    (hY : ∀ v s₁ k' l' c' p' fs' cl', cl' = false → Y v k' c' fs' s₁ → wpAny M A (k (.yielded v)) Q E (s₁.setGen g (.suspended k' l' c' p' fs' cl'))) : wpAny M A (.resume g r l k) Q E s := by
  intro Γ p hΓ
  rw [Sem.wp_resume]
  have hB : ∀ c, (Γ.wake c p).Woken A := fun c => hΓ.wake c p
  have fin : ∀ e₁ s₁, End1 R Y e₁ s₁ → wp M Γ (k e₁.result) (fun a _ s' => Q a s') (fun e _ s' => E e s') p (s₁.setGen g e₁.genState) := by
    intro e₁ s₁ he
    cases e₁ with
    | ret x => exact hR x s₁ he Γ p hΓ
    | susp v g₀ l₀ k₀ c₀ p₀ fs₀ =>
      refine hY v s₁ k₀ l₀ c₀ p₀ fs₀ _ ?_ he.2 Γ p hΓ
      have := he.1
      unfold End.quiet at this
      simpa using this
  have hqt : ∀ e₁ s₁, End1 R Y e₁ s₁ → e₁.quiet = true := by
    intro e₁ s₁ he
    cases e₁ with
    | ret x => rfl
    | susp v g₀ l₀ k₀ c₀ p₀ fs₀ => exact he.1
  cases gs with
  | fresh c =>
    obtain ⟨rfl, hs⟩ := hgo
    obtain ⟨e₁, s₁, hr, he⟩ := hs (Γ.wake c p) p rfl (hB c)
    exact ⟨_, _, by unfold Wakes; rw [hg]; exact ⟨e₁, s₁, hr, hqt e₁ s₁ he, rfl, rfl⟩, fin e₁ s₁ he⟩
  | suspended k₀ l₀ c₀ p₀ fs₀ cl =>
    obtain ⟨e₁, s₁, hr, he⟩ := hgo (Γ.wake c₀ p) p₀ rfl (hB c₀)
    exact ⟨_, _, by unfold Wakes; rw [hg]; exact ⟨e₁, s₁, hr, hqt e₁ s₁ he, rfl, rfl⟩, fin e₁ s₁ he⟩
  | running => exact hgo.elim
  | finished => exact hgo.elim
section
variable {prog : Program} {w : World} {A : Around} {R : Ret1} {Y : Yld1} {fs : List Frame} {s : Shared} {env : Env} {c : Code}
theorem wpAny_pyNext_gen1 {a : Addr} {g : Nat} {gs : GenState} {P : Shared → Prop} {E : Value → Shared → Prop} {Q : Option Value → Shared → Prop} (hh : A.handled = none) (hl : s.heap.NoLimit) (hroom : A.depth < recursionLimit)
    (hg : s.heap.IsGen a g) (hgs : s.gens[g]? = some gs) (hgo : Goes1 (Mz prog w) A.in1 (fun r s₁ => r = .ok (.ret .none) ∧ P s₁) Y (.send .none) (s.setGen g .running) gs)
    (hY : ∀ v s₁ k' l' c' p' fs' cl', cl' = false → Y v k' c' fs' s₁ → Q (some v) (s₁.setGen g (.suspended k' l' c' p' fs' cl')))
    (hP : ∀ s₁, P s₁ → ∀ h', (∀ b o, s₁.heap.get? b = some o → h'.get? b = some o) → Q none { s₁.setGen g .finished with heap := h' }) :
    wpAny (Mz prog w) A (pyNext (.ref a)) Q E s := by
  unfold pyNext
  refine wpAny_bind (wpAny_attempt (wpAny_callSpecial?_slot (name := Str.ofString "__next__") hg.typeIs slot_gen_next
    (wz_call_entry slot_gen_next hg.typeIs (by decide) entry_gen_next ?_ (args_gen_next _))))
  show wpAny (Mz prog w) _ (Builtin.Generator.genWake (.ref a) (.send .none)) _ _ s
  unfold Builtin.Generator.genWake
  refine wpAny_bind (wpAny_holding (wpAny_genNumber hg (wpAny_bind (wpAny_genState hgs ?_))))
  cases gs with
  | running => exact hgo.elim
  | finished => exact hgo.elim
  | _ =>
    refine wpAny_bind (wpAny_roomToWake hl hroom ?_)
    show wpAny (Mz prog w) _ (.resume g (.send .none) [] _) _ _ s
    refine wpAny_resume1 hgs hgo (fun x s₁ hx => ?_) (fun v s₁ k' l' c' p' fs' cl' hcl hv => ?_)
    · obtain ⟨rfl, hp⟩ := hx
      show wpAny (Mz prog w) _ (newExc (.type "StopIteration") [] >>= _) _ _ _
      refine wpAny_bind ?_
      simp only [newExc, newTuple]
      refine wpAny_bind (wpAny_newObj_type ?_ (by size_fits))
      refine wpAny_bind (m := firstArgMember _ _) (wpAny_of_eq (a := Value.none) (by first | rfl | (simp only [firstArgMember]; rfl)) ?_)
      refine wpAny_newObj_type ?_ (by size_fits)
      simp only [raiseNew]
      refine wpAny_bind (wpAny_bind (wpAny_handled ?_))
      rw [show A.in1.handled = none from hh]
      refine wpAny_throw ?_
      refine wpAny_bind (wpAny_isInstance (T := "StopIteration") (b := true) ⟨_, Heap.get?_push_size _ rfl, rfl⟩ isSubtype_stop ?_)
      exact wpAny_pure (hP s₁ hp _ fun b o hb => Heap.get?_push_of_some _ (Heap.get?_push_of_some _ hb))
    · exact wpAny_pure ⟨v, rfl, wpAny_pure (hY v s₁ k' l' c' p' fs' cl' hcl hv)⟩
theorem wz_pyIter_gen {a : Addr} {g : Nat} {E : Value → Shared → Prop} {Q : Value → Shared → Prop} (hg : s.heap.IsGen a g) (h : Q (.ref a) s) : wpAny (Mz prog w) A (pyIter (.ref a)) Q E s := by
  refine wpAny_pyIter_slot hg.typeIs slot_gen_iter (wz_call_entry slot_gen_iter hg.typeIs (by decide) entry_gen_iter ?_ (args_gen_iter _))
  show wpAny (Mz prog w) _ (ret (.ref a)) _ _ s
  exact wpAny_pure ⟨_, rfl, "generator", _, hg.typeIs, slot_gen_next.lookup, h⟩
theorem r1_func {body : List Stmt} (h : R1 (Mz prog w) A R Y (.func body env) ((execs body env).wrap (fun f => .pure (.done (.ret (match f with | .ret v => v | _ => .none))))
      (fun e => (leaving env e).wrap (fun _ => .raise e) .raise id id) id id) fs s) : R1 (Mz prog w) A R Y (.func body env) ((Mz prog w).den (.func body env)) fs s := by
  show R1 (Mz prog w) A R Y _ (.point [] fun _ => ((execs body env).onRaise (leaving env)) >>= _) fs s
  refine r1_point ?_
  rw [Sem.onRaise_eq_wrap, Sem.bind_eq_wrap', Sem.wrap_wrap]
  rw [Sem.wrap_congr (execs body env) _ _ (K' := fun f => .pure (.done (.ret (match f with | .ret v => v | _ => .none))))
    (H' := fun e => (leaving env e).wrap (fun _ => .raise e) .raise id id) (fun f => by cases f <;> rfl)
    (fun e => by rw [Sem.bind_eq_wrap, Sem.wrap_wrap]; rfl)]
  exact h
variable {K : Flow → Sem PySem.Fin} {J : Value → Sem PySem.Fin} {gd : Bool → Bool} {lv : List Value → List Value}
theorem r1_execs_nil {M : Model} (h : R1 M A R Y c (K .next) fs s) : R1 M A R Y c ((execs [] env).wrap K J gd lv) fs s := h
theorem r1_execs_cons {M : Model} {st : Stmt} {rest : List Stmt} (h : R1 M A R Y c ((exec st env).wrap (fun f => match f with | .next => (execs rest env).wrap K J gd lv | f => K f) J gd lv) fs s) :
    R1 M A R Y c ((execs (st :: rest) env).wrap K J gd lv) fs s := by rw [execs_cons_wrap]; exact h
/-- behind a loop's code -/
def loopK (env : Env) (K : Flow → Sem PySem.Fin) (J : Value → Sem PySem.Fin) (gd : Bool → Bool) (lv : List Value → List Value) : Result → Sem PySem.Fin := fun r =>
  ((match r with | .ok f => (.pure f : Sem Flow) | .error e => .raise e).onRaise fun (x : Value) => do
    if (← field x 1) == Value.none then unsupported "frame.own-activation:exception-without-traceback"
    setFlight x env.frame).wrap K J gd lv
theorem r1_For {target iter : Expr} {body orelse : List Stmt} {pos : Pos}
    (h : wpAny (Mz prog w) (A.over c fs) (eval iter env) (fun x s₁ => wpAny (Mz prog w) (A.over c fs) (pyIter x) (fun it s₂ =>
      ∀ p, R1 (Mz prog w) A R Y (.forLoop target it body orelse env) ((Mz prog w).den (.forLoop target it body orelse env)) (.ret (loopK env K J gd lv) none (gd false) (lv []) c p [] :: fs) s₂) NoX s₁) NoX s)
    (hs : ∀ x, foldedSetIterable iter env x = pure x := by intro _; rfl) : R1 (Mz prog w) A R Y c ((exec (.For target iter body orelse pos) env).wrap K J gd lv) fs s := by
  rw [exec_For]
  refine r1_bind_wrap (wpAny_standAt ?_)
  refine r1_bind_wrap (wpAny_mono h (fun x s₁ h₁ => ?_) fun _ _ q => q)
  refine r1_bind_wrap (wpAny_of_eq (hs x) ?_)
  refine r1_bind_wrap (wpAny_standAt ?_)
  refine r1_bind_wrap (wpAny_holding (wpAny_mono h₁ (fun it s₂ h₂ => ?_) fun _ _ q => q))
  exact r1_call h₂
theorem r1_block_nil (h : ∀ c', R1 (Mz prog w) A R Y c' (.pure (.done .next)) fs s) : R1 (Mz prog w) A R Y (.block [] env) ((Mz prog w).den (.block [] env)) fs s := by
  show R1 (Mz prog w) A R Y _ (((execs [] env).onRaise (fun x => do noteFrame x env; theTreesLotGoes x)) >>= fun f => pure (PySem.Fin.done f)) fs s
  exact r1_bind (wpAny_onRaise (wpAny_execs_nil (h _)))
theorem r1_forLoop {target : Expr} {it : Value} {body : List Stmt}
    (h : wpAny (Mz prog w) (A.over (.forLoop target it body [] env) fs) (pyNext it) (fun r s₁ => match r with
      | none => ∀ c', R1 (Mz prog w) A R Y c' (.pure (.done .next)) fs s₁
      | some v => wpAny (Mz prog w) (A.over (.forLoop target it body [] env) fs) (letOwnedTupleGo target it v) (fun _ s₂ =>
          wpAny (Mz prog w) (A.over (.forLoop target it body [] env) fs) (assign target env v) (fun _ s₃ =>
            R1 (Mz prog w) A R Y (.forLoop target it body [] env) ((execs body env).wrap (fun f => match f with
              | .next | .cont => .pure (.again (.forLoop target it body [] env))
              | .brk => .pure (.done .next)
              | .ret v => .pure (.done (.ret v))) (fun e => (do noteFrame e env; theTreesLotGoes e : Sem Unit).wrap (fun _ => .raise e) .raise id id) id id) fs s₃) NoX s₂) NoX s₁) NoX s) :
    R1 (Mz prog w) A R Y (.forLoop target it body [] env) ((Mz prog w).den (.forLoop target it body [] env)) fs s := by
  show R1 (Mz prog w) A R Y _ ((forTurn target it body [] env).onRaise (fun x => do noteFrame x env; theTreesLotGoes x)) fs s
  unfold forTurn
  rw [Sem.onRaise_eq_wrap]
  refine r1_bind_wrap (wpAny_standAt ?_)
  refine r1_bind_wrap (wpAny_onRaise (wpAny_mono h (fun r s₁ h₁ => ?_) fun _ _ q => q.elim))
  cases r with
  | none => exact r1_again rfl (r1_block_nil h₁)
  | some v =>
    refine r1_bind_wrap (wpAny_mono h₁ (fun _ s₂ h₂ => ?_) fun _ _ q => q)
    refine r1_bind_wrap (wpAny_mono h₂ (fun _ s₃ h₃ => ?_) fun _ _ q => q)
    rw [Sem.bind_eq_wrap', Sem.wrap_wrap]
    rw [Sem.wrap_congr (execs body env) _ _ (K' := fun f => match f with
          | .next | .cont => .pure (.again (.forLoop target it body [] env))
          | .brk => .pure (.done .next)
          | .ret v => .pure (.done (.ret v))) (H' := (fun e => (do noteFrame e env; theTreesLotGoes e : Sem Unit).wrap (fun _ => .raise e) .raise id id))
      (fun f => by cases f <;> rfl)
      (fun e => by first | exact Sem.bind_eq_wrap _ _ | (show (do noteFrame e env; theTreesLotGoes e : Sem Unit).bind (fun _ => .raise e) = _; rw [Sem.bind_eq_wrap]))]
    exact h₃
theorem r1_If {test : Expr} {body orelse : List Stmt} {pos : Pos} (h : wpAny (Mz prog w) (A.over c fs) (isTrue test env (eval test env)) (fun b s₁ => R1 (Mz prog w) A R Y c ((execs (if b = true then body else orelse) env).wrap K J gd lv) fs s₁) NoX s) :
    R1 (Mz prog w) A R Y c ((exec (.If test body orelse pos) env).wrap K J gd lv) fs s := by
  rw [exec_If]
  refine r1_bind_wrap (wpAny_standAt ?_)
  refine r1_bind_wrap (wpAny_mono h (fun b s₁ h₁ => ?_) fun _ _ q => q)
  cases b with
  | true => exact h₁
  | false => exact h₁
end
end SG
namespace SG
open PySem L2
theorem new_same {H : Hp} {p : Addr} (h : H p = none) (o : HO) : Same H (upd H p o) := fun b u q => by rw [upd_ne (ne_of_none q h)]; exact q
theorem yes {σ : L2.St} {H : Hp} {Q : Bool → Hp → Prop} (h : Q true H) : tYes σ H Q := h
theorem small5 {n : Nat} (h : n ≤ 100000) : n < sizeLine := by rw [sizeLine_eq]; omega
/-- a list of data, one by one -/
def Each {α : Type} (R : Hp → α → V → Prop) (H : Hp) : List α → List V → Prop
  | [], [] => True
  | a :: r, x :: xs => R H a x ∧ Each R H r xs
  | _, _ => False
section
variable {α : Type} {R : Hp → α → V → Prop} {H H' : Hp}
theorem Each.mono (m : ∀ a v, R H a v → R H' a v) : ∀ {es : List α} {xs : List V}, Each R H es xs → Each R H' es xs
  | [], [], _ => trivial
  | _ :: _, _ :: _, ⟨h1, h2⟩ => ⟨m _ _ h1, Each.mono m h2⟩
  | [], _ :: _, h => h.elim
  | _ :: _, [], h => h.elim
theorem Each.len : ∀ {es : List α} {xs : List V}, Each R H es xs → xs.length = es.length
  | [], [], _ => rfl
  | _ :: _, _ :: _, ⟨_, h2⟩ => congrArg (· + 1) (Each.len h2)
  | [], _ :: _, h => h.elim
  | _ :: _, [], h => h.elim
theorem Each.get : ∀ {es : List α} {xs : List V} {i : Nat} {x : V}, Each R H es xs → xs[i]? = some x → ∃ e, es[i]? = some e ∧ R H e x
  | [], [], i, x, _, e => by cases i <;> cases e
  | a :: _, y :: _, 0, x, ⟨h1, _⟩, e => ⟨a, rfl, by cases e; exact h1⟩
  | _ :: _, _ :: _, i + 1, x, ⟨_, h2⟩, e => Each.get (i := i) h2 e
  | [], _ :: _, _, _, h, _ => h.elim
  | _ :: _, [], _, _, h, _ => h.elim
theorem Each.app : ∀ {es fs : List α} {xs ys : List V}, Each R H es xs → Each R H fs ys → Each R H (es ++ fs) (xs ++ ys)
  | [], _, [], _, _, h => h
  | _ :: _, _, _ :: _, _, ⟨h1, h2⟩, h => ⟨h1, Each.app h2 h⟩
  | [], _, _ :: _, _, h, _ => h.elim
  | _ :: _, _, [], _, h, _ => h.elim
end
theorem Each.imp {α : Type} {R R' : Hp → α → V → Prop} {H H' : Hp} (m : ∀ a v, R H a v → R' H' a v) : ∀ {es : List α} {xs : List V}, Each R H es xs → Each R' H' es xs
  | [], [], _ => trivial
  | _ :: _, _ :: _, ⟨h1, h2⟩ => ⟨m _ _ h1, Each.imp m h2⟩
  | [], _ :: _, h => h.elim
  | _ :: _, [], h => h.elim
end SG
namespace SG
open PySem L2
/-! ### the same rules with the written part named -/
def rTupOf (K : PySem.W.Frag) : List V → Hp → VK → Prop := fun xs H Q => ∃ p ys, xs = [.ref p] ∧ ((SqL K H p ys ∧ ∀ l, H l = none → Q (.ref l) (upd H l (.tup ys))) ∨ (SqT K H p ys ∧ Q (.ref p) H))
def rLstOf (K : PySem.W.Frag) : List V → Hp → VK → Prop := fun xs H Q => ∃ p ys, xs = [.ref p] ∧ (SqL K H p ys ∨ SqT K H p ys) ∧ ∀ l, H l = none → Q (.ref l) (upd H l (.lst ys))
def rLenQ (K : PySem.W.Frag) : List V → Hp → VK → Prop := fun xs H Q => ∃ p ys, xs = [.ref p] ∧ (SqL K H p ys ∨ SqT K H p ys) ∧ Q (.int ys.length) H
section
variable {X : Cx}
theorem call_tupK : CallR X (.type "tuple") (rTupOf X.K) := call_tuple_of
theorem call_lstK : CallR X (.type "list") (rLstOf X.K) := call_list_of
theorem call_lenK : CallR X (.builtin "len") (rLenQ X.K) := call_len_seq
theorem pe_fldK {K : PySem.W.Frag} {e : Expr} {f : Str} {pos : Pos} {ta : TE} (ha : PE X e ta) (hb : attributeBase e f X.env (eval e X.env) = eval e X.env) (hk : X.K = K := by rfl) : PE X (.Attribute e f pos) (tFld K ta f) := hk ▸ pe_fld ha hb
theorem pi_listK {K : PySem.W.Frag} {tg l : Expr} {tl : TE} (h : PE X l tl) (hk : X.K = K := by rfl) : PI X tg l (iList K tl) := hk ▸ pi_list h
theorem pi_tupK {K : PySem.W.Frag} {tg l : Expr} {tl : TE} (h : PE X l tl) (hk : X.K = K := by rfl) : PI X tg l (iTup K tl) := hk ▸ pi_tup h
end
end SG
namespace SG
open PySem L2
theorem sl {n : Nat} (h : n ≤ 10000000) : n < sizeLine := by rw [sizeLine_eq]; omega
/-! ### what a piece of the program may change -/
/-- only what stands at fp may have changed; what stands at fp' was there or is new; tuples stay -/
structure Chg (fp fp' : List Addr) (H H' : Hp) : Prop where
  keep : ∀ a o, H a = some o → a ∉ fp → H' a = some o
  tups : ∀ a xs, H a = some (.tup xs) → H' a = some (.tup xs)
  dom : ∀ a, H' a = none → H a = none
  new : ∀ a, a ∈ fp' → a ∈ fp ∨ H a = none
section
variable {fp fp' gp gp' r : List Addr} {H H1 H2 H' : Hp} {a p : Addr} {o : HO}
theorem Chg.refl (fp : List Addr) (H : Hp) : Chg fp fp H H := ⟨fun _ _ h _ => h, fun _ _ h => h, fun _ h => h, fun _ h => .inl h⟩
theorem Chg.trans (x : Chg fp gp H H1) (y : Chg gp fp' H1 H2) : Chg fp fp' H H2 where
  keep := fun a o e n => y.keep a o (x.keep a o e n) fun z => (x.new a z).elim n fun w => by rw [w] at e; cases e
  tups := fun a xs e => y.tups a xs (x.tups a xs e)
  dom := fun a e => x.dom a (y.dom a e)
  new := fun a z => (y.new a z).elim (x.new a) fun w => .inr (x.dom a w)
theorem Chg.mono (x : Chg fp fp' H H') (h1 : ∀ a, a ∈ fp → a ∈ gp) (h2 : ∀ a, a ∈ gp' → a ∈ fp' ∨ a ∈ gp) : Chg gp gp' H H' where
  keep := fun a o e n => x.keep a o e fun z => n (h1 a z)
  tups := x.tups
  dom := x.dom
  new := fun a z => (h2 a z).elim (fun w => (x.new a w).imp (h1 a) id) .inl
theorem Chg.same (s : Same H H') (d : ∀ a, H' a = none → H a = none) : Chg fp fp H H' := ⟨fun a o e _ => s a o e, fun a xs e => s _ _ e, d, fun _ h => .inl h⟩
theorem dom_same (s : Same H H') : ∀ a, H' a = none → H a = none := fun _ e => s.free e
/-- a new object that belongs to the piece -/
theorem Chg.mk1 (n : H p = none) (o : HO) : Chg fp (p :: fp) H (upd H p o) where
  keep := fun a u e _ => by rw [upd_ne (ne_of_none e n)]; exact e
  tups := fun a u e => by rw [upd_ne (ne_of_none e n)]; exact e
  dom := fun a e => by
    by_cases z : a = p
    · rw [z]; exact n
    · rw [upd_ne z] at e; exact e
  new := fun a z => (List.mem_cons.mp z).elim (fun w => .inr (by rw [w]; exact n)) .inl
/-- a new object that nobody changes -/
theorem Chg.mk0 (n : H p = none) (o : HO) : Chg fp fp H (upd H p o) := (Chg.mk1 n o).mono (fun _ h => h) fun _ h => .inr h
theorem Chg.set (e : H a = some o) (m : a ∈ fp) (t : ∀ xs, o ≠ .tup xs) (o' : HO) : Chg fp fp H (upd H a o') where
  keep := fun b u h n => by rw [upd_ne fun z => n (by rw [z]; exact m)]; exact h
  tups := fun b u h => by
    rw [upd_ne fun z => ?_]
    · exact h
    · rw [z, e] at h; exact t u (Option.some.inj h)
  dom := fun b h => by
    by_cases z : b = a
    · rw [z, upd_same] at h; cases h
    · rw [upd_ne z] at h; exact h
  new := fun _ h => .inl h
theorem Chg.get (x : Chg fp fp' H H') (e : H a = some o) (n : a ∉ fp) : H' a = some o := x.keep a o e n
end
theorem Chg.all {H H' : Hp} {fp : List Addr} (c : Chg [] fp H H') : Same H H' := fun a o e => c.keep a o e (by intro h; cases h)
theorem no1 {a x : Addr} (h : a ≠ x) : a ∉ [x] := fun z => h (List.mem_singleton.mp z)
theorem no2 {a x y : Addr} (h : a ≠ x) (h' : a ≠ y) : a ∉ [x, y] := fun z => (List.mem_cons.mp z).elim h (no1 h')
theorem no3 {a x y z : Addr} (h : a ≠ x) (h' : a ≠ y) (h'' : a ≠ z) : a ∉ [x, y, z] := fun w => (List.mem_cons.mp w).elim h (no2 h' h'')
/-! ### data made of tuples -/
mutual
/-- v is the datum: ints, texts, bools, None, tuples of such -/
def Ft (H : Hp) : PyData → V → Prop
  | .none, v => v = .non
  | .bool b, v => v = .bl b
  | .int i, v => v = .int i
  | .str x, v => v = .str x
  | .tuple ds, v => ∃ p xs, v = .ref p ∧ H p = some (.tup xs) ∧ FtAll H ds xs
  | .list _, _ => False
  | .dict _, _ => False
def FtAll (H : Hp) : List PyData → List V → Prop
  | [], [] => True
  | d :: ds, x :: xs => Ft H d x ∧ FtAll H ds xs
  | _, _ => False
end
abbrev Tups (H H' : Hp) : Prop := ∀ a xs, H a = some (.tup xs) → H' a = some (.tup xs)
section
variable {H H' : Hp}
theorem FtAll.nil : FtAll H [] [] := by unfold FtAll; trivial
theorem FtAll.cons {d : PyData} {ds : List PyData} {x : V} {xs : List V} (h : Ft H d x) (h' : FtAll H ds xs) : FtAll H (d :: ds) (x :: xs) := by unfold FtAll; exact ⟨h, h'⟩
theorem FtAll.un {d : PyData} {ds : List PyData} {x : V} {xs : List V} (h : FtAll H (d :: ds) (x :: xs)) : Ft H d x ∧ FtAll H ds xs := by unfold FtAll at h; exact h
theorem FtAll.no1 {x : V} {xs : List V} (h : FtAll H [] (x :: xs)) : False := by unfold FtAll at h; exact h
theorem FtAll.no2 {d : PyData} {ds : List PyData} (h : FtAll H (d :: ds) []) : False := by unfold FtAll at h; exact h
theorem Ft.tup {ds : List PyData} {v : V} (h : Ft H (.tuple ds) v) : ∃ p xs, v = .ref p ∧ H p = some (.tup xs) ∧ FtAll H ds xs := by unfold Ft at h; exact h
theorem Ft.mkTup {ds : List PyData} {p : Addr} {xs : List V} (h : H p = some (.tup xs)) (h' : FtAll H ds xs) : Ft H (.tuple ds) (.ref p) := by unfold Ft; exact ⟨p, xs, rfl, h, h'⟩
theorem Ft.mkInt (i : Int) : Ft H (.int i) (.int i) := by unfold Ft; rfl
theorem Ft.int {i : Int} {v : V} (h : Ft H (.int i) v) : v = .int i := by unfold Ft at h; exact h
theorem Ft.mkStr (i : Str) : Ft H (.str i) (.str i) := by unfold Ft; rfl
theorem Ft.str {i : Str} {v : V} (h : Ft H (.str i) v) : v = .str i := by unfold Ft at h; exact h
mutual
theorem Ft.mono (s : Tups H H') : ∀ {d : PyData} {v : V}, Ft H d v → Ft H' d v
  | .none, _, h => by unfold Ft at h ⊢; exact h
  | .bool _, _, h => by unfold Ft at h ⊢; exact h
  | .int _, _, h => by unfold Ft at h ⊢; exact h
  | .str _, _, h => by unfold Ft at h ⊢; exact h
  | .tuple _, _, h => by
    obtain ⟨p, xs, rfl, h1, h2⟩ := h.tup
    exact Ft.mkTup (s _ _ h1) (FtAll.mono s h2)
  | .list _, _, h => by unfold Ft at h; exact h.elim
  | .dict _, _, h => by unfold Ft at h; exact h.elim
theorem FtAll.mono (s : Tups H H') : ∀ {ds : List PyData} {vs : List V}, FtAll H ds vs → FtAll H' ds vs
  | [], [], _ => .nil
  | _ :: _, _ :: _, h => .cons (Ft.mono s h.un.1) (FtAll.mono s h.un.2)
  | [], _ :: _, h => h.no1.elim
  | _ :: _, [], h => h.no2.elim
end
theorem FtAll.len : ∀ {ds : List PyData} {vs : List V}, FtAll H ds vs → vs.length = ds.length
  | [], [], _ => rfl
  | _ :: _, _ :: _, h => congrArg (· + 1) h.un.2.len
  | [], _ :: _, h => h.no1.elim
  | _ :: _, [], h => h.no2.elim
theorem FtAll.get : ∀ {ds : List PyData} {vs : List V} {i : Nat} {d : PyData}, FtAll H ds vs → ds[i]? = some d → ∃ x, vs[i]? = some x ∧ Ft H d x
  | [], [], i, x, _, e => by cases i <;> cases e
  | _ :: _, y :: _, 0, x, h, e => ⟨y, rfl, by cases e; exact h.un.1⟩
  | _ :: _, _ :: _, i + 1, x, h, e => h.un.2.get (i := i) e
  | [], _ :: _, _, _, h, _ => h.no1.elim
  | _ :: _, [], _, _, h, _ => h.no2.elim
theorem FtAll.app : ∀ {ds es : List PyData} {xs ys : List V}, FtAll H ds xs → FtAll H es ys → FtAll H (ds ++ es) (xs ++ ys)
  | [], _, [], _, _, h => h
  | _ :: _, _, _ :: _, _, h', h => .cons h'.un.1 (h'.un.2.app h)
  | [], _, _ :: _, _, h, _ => h.no1.elim
  | _ :: _, _, [], _, h, _ => h.no2.elim
theorem FtAll.set : ∀ {ds : List PyData} {vs : List V} {d : PyData} {x : V} (i : Nat), FtAll H ds vs → Ft H d x → FtAll H (ds.set i d) (vs.set i x)
  | [], [], _, _, _, _, _ => .nil
  | _ :: _, _ :: _, _, _, 0, h, e => .cons e h.un.2
  | _ :: _, _ :: _, _, _, i + 1, h, e => .cons h.un.1 (h.un.2.set i e)
  | [], _ :: _, _, _, _, h, _ => h.no1.elim
  | _ :: _, [], _, _, _, h, _ => h.no2.elim
theorem FtAll.ints : ∀ {ns : List Int}, FtAll H (ns.map .int) (ns.map V.int)
  | [] => .nil
  | n :: _ => .cons (Ft.mkInt n) FtAll.ints
theorem FtAll.ints_eq : ∀ {ns : List Int} {vs : List V}, FtAll H (ns.map .int) vs → vs = ns.map V.int
  | [], [], _ => rfl
  | _ :: _, _ :: _, h => by rw [h.un.1.int, h.un.2.ints_eq]; rfl
  | [], _ :: _, h => h.no1.elim
  | _ :: _, [], h => h.no2.elim
mutual
theorem Ft.dp (K : PySem.W.Frag) : ∀ {d : PyData} {v : V}, Ft H d v → Dp K H v d
  | .none, _, h => by unfold Ft at h; subst h; exact .non
  | .bool _, _, h => by unfold Ft at h; subst h; exact .bl _
  | .int _, _, h => by unfold Ft at h; subst h; exact .int _
  | .str _, _, h => by unfold Ft at h; subst h; exact .str _
  | .tuple _, _, h => by
    obtain ⟨p, xs, rfl, h1, h2⟩ := h.tup
    exact .tup (SqT.of h1) (FtAll.dp K h2)
  | .list _, _, h => by unfold Ft at h; exact h.elim
  | .dict _, _, h => by unfold Ft at h; exact h.elim
theorem FtAll.dp (K : PySem.W.Frag) : ∀ {ds : List PyData} {vs : List V}, FtAll H ds vs → DpAll K H vs ds
  | [], [], _ => .nil
  | _ :: _, _ :: _, h => .cons (Ft.dp K h.un.1) (FtAll.dp K h.un.2)
  | [], _ :: _, h => h.no1.elim
  | _ :: _, [], h => h.no2.elim
end
end
end SG
namespace SG
open PySem PyProof.Rows L2
/-! ### the heap below n -/
def cutH (n : Nat) (h : Heap) : Heap := { h with objs := h.objs.extract 0 n }
def cutS (n : Nat) (s : Shared) : Shared := { s with heap := cutH n s.heap }
def below (n : Nat) (H : Hp) : Hp := fun b => if b < n then H b else none
section
variable {n : Nat} {h : Heap} {b : Addr} {o : Obj} {H : Hp}
theorem cutH_size (hn : n ≤ h.objs.size) : (cutH n h).objs.size = n := by
  show (h.objs.extract 0 n).size = n
  rw [Array.size_extract, Nat.sub_zero]
  exact Nat.min_eq_left hn
theorem cutH_get (hb : b < n) : (cutH n h).get? b = h.get? b := by
  have e : (cutH n h).objs[b]? = h.objs[b]? := by
    show (h.objs.extract 0 n)[b]? = _
    have hb' : (b : Nat) < n := hb
    rw [Array.getElem?_extract]
    simp only [Nat.sub_zero, Nat.zero_add]
    by_cases l : (b : Nat) < h.objs.size
    · rw [if_pos (Nat.lt_min.mpr ⟨hb', l⟩)]
    · rw [if_neg (fun z => l (Nat.lt_min.mp z).2), Array.getElem?_eq_none (Nat.le_of_not_lt l)]
  unfold Heap.get?
  rw [e]
theorem of_cutH (e : (cutH n h).get? b = some o) : b < n ∧ h.get? b = some o := by
  have l := Heap.lt_size e
  have l : (b : Nat) < (h.objs.extract 0 n).size := l
  rw [Array.size_extract, Nat.sub_zero] at l
  have hb : b < n := Nat.lt_of_lt_of_le l (Nat.min_le_left ..)
  rw [cutH_get hb] at e
  exact ⟨hb, e⟩
theorem below_lt (hb : b < n) : below n H b = H b := if_pos hb
theorem of_below {u : HO} (e : below n H b = some u) : b < n ∧ H b = some u := by
  unfold below at e
  split at e
  · rename_i l; exact ⟨l, e⟩
  · cases e
theorem un_cut {fs ex : List Addr} : Un fs ex (below n H) H (cutH n h) h where
  keep := fun b o e _ _ _ => (of_cutH e).2
  slot := fun b o e _ _ _ => ⟨o.slots, (of_cutH e).2⟩
  free := fun b o e q _ => by rw [below_lt (of_cutH e).1] at q; exact q
  there := fun b o e _ => ⟨o, (of_cutH e).2⟩
  tups := fun b xs e => (of_below e).2
  frzs := fun b o u e => (of_below e).2
  tbls := fun b ps e => ⟨#[], by rw [(of_below e).2]; simp⟩
end
/-! ### where a generator's body stands: the context is told anew at each wake -/
structure Gc where
  P : Program
  w : World
  K : PySem.W.Frag
  mg : Str → Option Value
  base : Heap
  N : List Str
  env : Env
  A : Around
  outer : List Env
  n0 : Nat
  a : Addr
  g : Nat
  os : OsState
def Gc.cx (G : Gc) (s : Shared) (H : Hp) (oa : Obj) : Cx where
  prog := G.P
  w := G.w
  K := G.K
  mg := G.mg
  base := G.base
  A := G.A.deeper G.env
  N := G.N
  s_0 := s
  H_0 := H
  env := G.env
  outer := G.outer
  stack := G.env :: G.outer
  ex := []
  fn := fun _ => true
  calm := true
  pn := [(G.a, oa)]
  xe := fun _ _ => False
/-- .. woken at s, H -/
abbrev Gc.at (G : Gc) (s : Shared) (H : Hp) (oa : Obj) : Cx := G.cx (cutS G.n0 s) (below G.n0 H) oa
structure Gc.Ok (G : Gc) : Prop where
  kind : G.env.scope.kind = .function
  glob : G.env.globals = mainGlobals
  blt : G.env.builtins = builtinsNs
  loc : G.n0 ≤ G.env.locals
  fr : G.env.frame = some G.env.locals
  inj : ∀ x y c, G.env.cells.lookup x = some c → G.env.cells.lookup y = some c → x = y
  has : ∀ x, (G.env.kindOf x = some .cell ∨ G.env.kindOf x = some .free) → ∃ c, G.env.cells.lookup x = some c
  cab : ∀ x c, G.env.cells.lookup x = some c → G.n0 ≤ c
  hd : G.A.handled = none
  bsz : G.base.objs.size ≤ G.n0
  old : ∀ b ∈ frs G.outer, b < G.n0
  ga : G.n0 ≤ G.a
  gal : G.a ≠ G.env.locals
theorem fun_cut {base h h0 : Heap} {n : Nat} : ∀ {l : List Env}, (∀ b ∈ frs l, b < n) → h.FunFrames base l → (cutH n h).FunFrames base l
  | [], _, _ => trivial
  | env :: r, hb, ⟨hk, ⟨L, o, hf, hn, ho, hd⟩, hr⟩ => by
    have hL : L ∈ frs (env :: r) := by unfold frs; rw [List.filterMap_cons, hf]; exact List.mem_cons_self
    refine ⟨hk, ⟨L, o, hf, hn, by rw [cutH_get (hb L hL)]; exact ho, hd⟩, fun_cut (h0 := h0) (fun b hb' => hb b ?_) hr⟩
    unfold frs
    rw [List.filterMap_cons, hf]
    exact List.mem_cons_of_mem _ hb'
section
variable {G : Gc} {s : Shared} {H : Hp} {pins : List (Addr × Obj)} {σ : L2.St}
theorem Gc.Ok.cx (ok : G.Ok) (e0 : Env0 G.P G.w G.K G.mg G.base G.A G.outer s H) (hn : G.n0 ≤ s.heap.objs.size) (oa : Obj) : (G.at s H oa).Ok where
  mod := e0.mod
  kind := ok.kind
  glob := ok.glob
  blt := ok.blt
  above := by show (cutH G.n0 s.heap).objs.size ≤ _; rw [cutH_size hn]; exact ok.loc
  inj := ok.inj
  has := ok.has
  cab := fun x c _ e => by show (cutH G.n0 s.heap).objs.size ≤ _; rw [cutH_size hn]; exact ok.cab x c e
  hd := fun _ => ok.hd
  frames := Around.frames_deeper e0.frames
  stk := .inr ⟨rfl, ok.fr⟩
  exf := fun b z => absurd z (by show b ∉ ([] : List Addr); simp)
  bs := fun b o e => by
    have l : b < G.n0 := Nat.lt_of_lt_of_le (Heap.lt_size e) ok.bsz
    refine ⟨?_, ?_⟩
    · show (cutH G.n0 s.heap).get? b = some o
      rw [cutH_get l]; exact (e0.bs b o e).1
    · show below G.n0 H b = none
      rw [below_lt l]; exact (e0.bs b o e).2
  bsz := by show _ ≤ (cutH G.n0 s.heap).objs.size; rw [cutH_size hn]; exact ok.bsz
  noex := fun b o _ z => absurd z (by show b ∉ ([] : List Addr); simp)
  exfs := fun b z => absurd z (by show b ∉ ([] : List Addr); simp)
  funs := fun_cut (h0 := s.heap) ok.old e0.funs
  frf := fun b hb => by
    show below G.n0 H b = none
    rw [below_lt (ok.old b hb)]; exact e0.frf b hb
theorem Gc.inv (ok : G.Ok) (e0 : Env0 G.P G.w G.K G.mg G.base G.A G.outer s H) (hn : G.n0 ≤ s.heap.objs.size) {oa : Obj}
    (loc : ∃ m, s.heap.Ns G.env.locals m ∧ ∀ (i : Nat) (x : Str) (v : V), G.N[i]? = some x → σ[i]? = some (some v) → Vis G.env.scope x → ∃ u, RelV v u ∧ Look G.env s.heap m x u) (cell : ∀ x c, G.env.cells.lookup x = some c → ∃ v, s.heap.IsCell c v)
    (free : H G.env.locals = none) (freeC : ∀ x c, G.env.cells.lookup x = some c → H c = none)
    (pin : ∀ p ∈ (G.a, oa) :: pins, s.heap.get? p.1 = some p.2 ∧ H p.1 = none ∧ p.1 ≠ G.env.locals ∧ p.1 ∉ frs G.outer ∧ ∀ v, p.2.data ≠ .cell v) (len : σ.length = G.N.length) : Inv (G.at s H oa) pins σ H s :=
  ⟨ok.cx e0 hn oa, rfl, e0.bare, un_cut, loc, cell, free, freeC, pin, e0.hok, len⟩
end
/-! ### what the one who draws owes, and what it gets -/
/-- between two draws: what is to be kept is kept, the sleepers sleep -/
structure Rely (P : Program) (w : World) (K : PySem.W.Frag) (mg : Str → Option Value) (base : Heap) (A : Around) (outer : List Env) (g : Nat) (kp : List (Addr × Obj)) (prot : List Addr) (H : Hp) (s : Shared) (H' : Hp) (s' : Shared) : Prop where
  os : s'.os = s.os
  e0 : Env0 P w K mg base A outer s' H'
  kp : ∀ p ∈ kp, s'.heap.get? p.1 = some p.2 ∧ H' p.1 = none
  gens : KeepX g s.gens s'.gens
  tups : Tups H H'
  prot : ∀ x ∈ prot, H' x = H x
  run : s'.gens[g]? = some .running
/-- behind a draw that began at s, H -/
structure Guar (P : Program) (w : World) (outer : List Env) (n0 : Nat) (H : Hp) (s : Shared) (H1 : Hp) (s1 : Shared) : Prop where
  os : s1.os = s.os
  bare : AllBare s1.gens
  un : Un (frs outer) [] (below n0 H) H1 (cutH n0 s.heap) s1.heap
  hok : HOk P w H1 s1.heap
  chg : Chg [] [] H H1
/-- what is to be kept stands -/
structure KpOk (n0 : Nat) (a : Addr) (oa : Obj) (kp : List (Addr × Obj)) (H : Hp) (s : Shared) : Prop where
  at_ : ∀ p ∈ (a, oa) :: kp, s.heap.get? p.1 = some p.2 ∧ H p.1 = none ∧ (∀ v, p.2.data ≠ .cell v) ∧ n0 ≤ p.1
  ap : ∀ p ∈ kp, p.1 ≠ a
/-- what is known of a generator in the state gs: it hands out ds, then ends. Bf: the others' marks; bs: its own, they lie in kp; oa: its object as it is now -/
def Rdy (P : Program) (w : World) (K : PySem.W.Frag) (mg : Str → Option Value) (base : Heap) (A : Around) (outer : List Env) (n0 : Nat) (a : Addr) (g : Nat) : List PyData → List Addr → List (Addr × Obj) → List Mark → Hp → Shared → GenState → Prop
  | [], prot, kp, bs, H, s, gs => ∀ (Bf : List Mark) (oa : Obj) H' s', (∀ v, oa.data ≠ .cell v) → n0 ≤ a → Rely P w K mg base A outer g ((a, oa) :: kp) prot H s H' s' → MkS (Bf ++ bs) s' → Goes1 (Mz P w) A (fun r s1 => r = .ok (.ret .none) ∧ MkS Bf s1 ∧ ∃ H1, Guar P w outer n0 H' s' H1 s1) (fun _ _ _ _ _ => False) (.send .none) s' gs
  | d :: ds, prot, kp, bs, H, s, gs => ∀ (Bf : List Mark) (oa : Obj) H' s', (∀ v, oa.data ≠ .cell v) → n0 ≤ a → Rely P w K mg base A outer g ((a, oa) :: kp) prot H s H' s' → MkS (Bf ++ bs) s' → Goes1 (Mz P w) A (fun _ _ => False) (fun v k c fs s1 => ∃ x prot' kp' bs' H1, RelV x v ∧ Ft H1 d x ∧ Guar P w outer n0 H' s' H1 s1 ∧ (∀ y ∈ prot', (y ∈ prot ∨ H' y = none) ∧ H1 y ≠ none) ∧ KpOk n0 a oa kp' H1 s1 ∧
      MkS (Bf ++ bs') s1 ∧ (∀ b ∈ bs', b.2 ∈ kp') ∧ (∀ y, isYf c = some y → ∃ oy, (g, y, oy) ∈ bs' ∧ oy.genNumber?.isSome = true) ∧ ∀ l p cl, Rdy P w K mg base A outer n0 a g ds prot' kp' bs' H1 s1 (.suspended k l c p fs cl)) (.send .none) s' gs
def EndR (P : Program) (w : World) (outer : List Env) (n0 : Nat) (Bf : List Mark) (ds : List PyData) (H : Hp) (s : Shared) : Ret1 := fun r s1 => r = .ok (.ret .none) ∧ ds = [] ∧ MkS Bf s1 ∧ ∃ H1, Guar P w outer n0 H s H1 s1
def YldR (P : Program) (w : World) (K : PySem.W.Frag) (mg : Str → Option Value) (base : Heap) (A : Around) (outer : List Env) (n0 : Nat) (a : Addr) (oa : Obj) (g : Nat) (Bf : List Mark) (ds : List PyData) (prot : List Addr) (H : Hp) (s : Shared) : Yld1 := fun v k c fs s1 =>
  ∃ d ds' x prot' kp' bs' H1, ds = d :: ds' ∧ RelV x v ∧ Ft H1 d x ∧ Guar P w outer n0 H s H1 s1 ∧ (∀ y ∈ prot', (y ∈ prot ∨ H y = none) ∧ H1 y ≠ none) ∧ KpOk n0 a oa kp' H1 s1 ∧
    MkS (Bf ++ bs') s1 ∧ (∀ b ∈ bs', b.2 ∈ kp') ∧ (∀ y, isYf c = some y → ∃ oy, (g, y, oy) ∈ bs' ∧ oy.genNumber?.isSome = true) ∧ ∀ l p cl, Rdy P w K mg base A outer n0 a g ds' prot' kp' bs' H1 s1 (.suspended k l c p fs cl)
section
variable {P : Program} {w : World} {K : PySem.W.Frag} {mg : Str → Option Value} {base : Heap} {A : Around} {outer : List Env} {n0 : Nat} {a : Addr} {g : Nat}
theorem Goes1.mono {M : Model} {R R' : Ret1} {Y Y' : Yld1} {r : Resume} {s : Shared} {gs : GenState} (h : Goes1 M A R Y r s gs) (hR : ∀ r s, R r s → R' r s) (hY : ∀ v k c fs s, Y v k c fs s → Y' v k c fs s) : Goes1 M A R' Y' r s gs := by
  cases gs with
  | fresh c => exact ⟨h.1, r1_mono h.2 hR hY⟩
  | suspended k _ c _ fs _ => exact r1_mono (show R1 M A R Y c (k r) fs s from h) hR hY
  | running => exact h.elim
  | finished => exact h.elim
theorem rdy_iff {ds : List PyData} {prot : List Addr} {kp : List (Addr × Obj)} {bs : List Mark} {H : Hp} {s : Shared} {gs : GenState} : Rdy P w K mg base A outer n0 a g ds prot kp bs H s gs ↔
    ∀ (Bf : List Mark) (oa : Obj) H' s', (∀ v, oa.data ≠ .cell v) → n0 ≤ a → Rely P w K mg base A outer g ((a, oa) :: kp) prot H s H' s' → MkS (Bf ++ bs) s' → Goes1 (Mz P w) A (EndR P w outer n0 Bf ds H' s') (YldR P w K mg base A outer n0 a oa g Bf ds prot H' s') (.send .none) s' gs := by
  cases ds with
  | nil =>
    unfold Rdy
    constructor
    · exact fun h Bf oa H' s' hd hl r m => (h Bf oa H' s' hd hl r m).mono (fun r s q => ⟨q.1, rfl, q.2⟩) fun _ _ _ _ _ q => q.elim
    · exact fun h Bf oa H' s' hd hl r m => (h Bf oa H' s' hd hl r m).mono (fun r s q => ⟨q.1, q.2.2⟩) fun _ _ _ _ _ ⟨_, _, _, _, _, _, _, e, _⟩ => by cases e
  | cons d ds =>
    unfold Rdy
    constructor
    · exact fun h Bf oa H' s' hd hl r m => (h Bf oa H' s' hd hl r m).mono (fun r s q => q.elim) fun v k c fs s ⟨x, p, kp, bs, H1, q⟩ => ⟨d, ds, x, p, kp, bs, H1, rfl, q⟩
    · exact fun h Bf oa H' s' hd hl r m => (h Bf oa H' s' hd hl r m).mono (fun r s q => by obtain ⟨_, e, _⟩ := q; cases e) fun v k c fs s ⟨_, _, x, p, kp, bs, H1, e, q⟩ => by cases e; exact ⟨x, p, kp, bs, H1, q⟩
end
/-! ### the drawer's state behind a draw -/
structure Below (X : Cx) (pins : List (Addr × Obj)) (n0 : Nat) : Prop where
  s0 : X.s_0.heap.objs.size ≤ n0
  loc : X.env.locals < n0
  cell : ∀ x c, X.env.cells.lookup x = some c → c < n0
  pin : ∀ p ∈ X.pn ++ pins, p.1 < n0
  tups : ∀ b xs, X.H_0 b = some (.tup xs) → b < n0
  frzs : ∀ b o u, X.H_0 b = some (.frz o u) → b < n0
  tbls : ∀ b ps, X.H_0 b = some (.tbl ps) → b < n0
theorem Inv.below {X : Cx} {pins : List (Addr × Obj)} {σ : L2.St} {H : Hp} {s : Shared} {n0 : Nat} (I : Inv X pins σ H s) (hn : s.heap.objs.size ≤ n0) : Below X pins n0 where
  s0 := Nat.le_trans I.sz hn
  loc := Nat.lt_of_lt_of_le I.lt hn
  cell := fun x c e => let ⟨_, z⟩ := I.cell x c e; Nat.lt_of_lt_of_le z.lt hn
  pin := fun p hp => Nat.lt_of_lt_of_le (Heap.lt_size (I.pin p hp).1) hn
  tups := fun b xs e => Nat.lt_of_lt_of_le (I.hok.lt (I.base.tups b xs e)) hn
  frzs := fun b o u e => Nat.lt_of_lt_of_le (I.hok.lt (I.base.frzs b o u e)) hn
  tbls := fun b ps e => by
    obtain ⟨m, e⟩ := I.base.tbls b ps e
    exact Nat.lt_of_lt_of_le (I.hok.lt e) hn
theorem Inv.drawn {X : Cx} {pins : List (Addr × Obj)} {σ : L2.St} {H H1 : Hp} {s s1 : Shared} {n0 : Nat} (I : Inv X pins σ H s) (B : Below X pins n0) (g : Guar X.prog X.w X.stack n0 H s H1 s1) : Inv X pins σ H1 s1 := by
  have neL : ∀ b, b < X.s_0.heap.objs.size → b ≠ X.env.locals := fun b l e => by
    have := I.ok.above
    rw [e] at l
    exact absurd (Nat.lt_of_lt_of_le l this) (Nat.lt_irrefl _)
  have nst : ∀ b, b ≠ X.env.locals → b ∉ X.fs → b ∉ frs X.stack := fun b h1 h2 z => (List.mem_cons.mp (I.stkSub b z)).elim h1 h2
  have nx : ∀ b : Addr, b ∉ ([] : List Addr) := fun b z => by simp at z
  have cg : ∀ {b : Addr} {o : Obj}, b < n0 → s.heap.get? b = some o → (cutH n0 s.heap).get? b = some o := fun l e => by rw [cutH_get l]; exact e
  have any : ∀ {b : Addr} {o : Obj}, b < n0 → s.heap.get? b = some o → H b = none → ∃ sl, s1.heap.get? b = some { o with slots := sl } := fun l e n => g.un.any (cg l e) (by rw [below_lt l]; exact n) (nx _)
  have fre : ∀ {b : Addr} {o : Obj}, b < n0 → s.heap.get? b = some o → H b = none → H1 b = none := fun l e n => g.un.free _ _ (cg l e) (by rw [below_lt l]; exact n) (nx _)
  have lt0 : ∀ {b : Addr} {o : Obj}, X.s_0.heap.get? b = some o → b < n0 := fun e => Nat.lt_of_lt_of_le (Heap.lt_size e) B.s0
  refine ⟨I.ok, g.os.trans I.os, g.bare, ⟨fun b o e n hb hx => ?_, fun b o e n hb hx => ?_, fun b o e n hx => ?_, fun b o e hx => ?_, fun b xs e => ?_, fun b o u e => ?_, fun b ps e => ?_⟩, ?_, fun x c e => ?_, ?_, fun x c e => ?_, fun p hp => ?_, g.hok, I.len⟩
  · refine g.un.keep b o (cg (lt0 e) (I.base.keep b o e n hb hx)) (by rw [below_lt (lt0 e)]; exact I.base.free b o e n hx) (nst b (neL b (Heap.lt_size e)) hb) (nx _)
  · obtain ⟨sl, e1⟩ := I.base.slot b o e n hb hx
    obtain ⟨sl', e2⟩ := any (lt0 e) e1 (I.base.free b o e n hx)
    exact ⟨sl', e2⟩
  · obtain ⟨o', e1⟩ := I.base.there b o e hx
    exact fre (lt0 e) e1 (I.base.free b o e n hx)
  · obtain ⟨o', e1⟩ := I.base.there b o e hx
    exact g.un.there b o' (cg (lt0 e) e1) (nx _)
  · exact g.un.tups b xs (by rw [below_lt (B.tups b xs e)]; exact I.base.tups b xs e)
  · exact g.un.frzs b o u (by rw [below_lt (B.frzs b o u e)]; exact I.base.frzs b o u e)
  · obtain ⟨m1, e1⟩ := I.base.tbls b ps e
    obtain ⟨m2, e2⟩ := g.un.tbls b _ (by rw [below_lt (B.tbls b ps e)]; exact e1)
    exact ⟨m1 ++ m2, by rw [e2, Array.append_assoc]⟩
  · obtain ⟨m, ⟨o, es, ep, ho, r⟩, hl⟩ := I.loc
    obtain ⟨sl, hL⟩ := any B.loc ho I.free
    refine ⟨m, ⟨_, es, ep, hL, r⟩, fun i x v e1 e2 e3 => ?_⟩
    obtain ⟨u, ru, q⟩ := hl i x v e1 e2 e3
    refine ⟨u, ru, ?_⟩
    rcases q with q | ⟨k, c, e, oc, hoc, hd⟩
    · exact .inl q
    · obtain ⟨sl', hc⟩ := any (B.cell x c e) hoc (I.freeC x c e)
      exact .inr ⟨k, c, e, _, hc, hd⟩
  · obtain ⟨v, oc, hoc, hd⟩ := I.cell x c e
    obtain ⟨sl', hc⟩ := any (B.cell x c e) hoc (I.freeC x c e)
    exact ⟨v, _, hc, hd⟩
  · obtain ⟨m, ⟨o, es, ep, ho, r⟩, hl⟩ := I.loc
    exact fre B.loc ho I.free
  · obtain ⟨v, oc, hoc, hd⟩ := I.cell x c e
    exact fre (B.cell x c e) hoc (I.freeC x c e)
  · obtain ⟨e, n, ne, nf, d⟩ := I.pin p hp
    have l := B.pin p hp
    exact ⟨g.un.keep p.1 p.2 (cg l e) (by rw [below_lt l]; exact n) (nst _ ne nf) (nx _), fre l e n, ne, nf, d⟩
end SG
namespace SG
open PySem PyProof.Rows L2
/-! ### a generator's body, statement by statement -/
/-- the stretch that began at ph: it is to hand out ds -/
def Go1 (G : Gc) (ph : Shared × Hp × List Mark × Obj) (prot : List Addr) (ds : List PyData) (c : Code) (t : Sem PySem.Fin) (fs : List Frame) (s : Shared) : Prop :=
  R1 (Mz G.P G.w) G.A (EndR G.P G.w G.outer G.n0 ph.2.2.1 ds ph.2.1 ph.1) (YldR G.P G.w G.K G.mg G.base G.A G.outer G.n0 G.a ph.2.2.2 G.g ph.2.2.1 ds prot ph.2.1 ph.1) c t fs s
structure GEnds where
  nx : List Addr → Hp → List PyData → L2.St → Hp → Prop
  rt : List Addr → Hp → List PyData → V → Hp → Prop
  bk : List Addr → Hp → List PyData → L2.St → Hp → Prop := fun _ _ _ _ _ => False
  ct : List Addr → Hp → List PyData → L2.St → Hp → Prop := fun _ _ _ _ _ => False
def GEnds.at (D : GEnds) (prot : List Addr) (H0 : Hp) (ds : List PyData) : Ends := { nx := D.nx prot H0 ds, rt := D.rt prot H0 ds, bk := D.bk prot H0 ds, ct := D.ct prot H0 ds }
/-- D, what is protected, the heap at the wake, what is still to be handed out -/
abbrev TGn := GEnds → List Addr → Hp → List PyData → L2.St → Hp → Prop
structure GIv (G : Gc) (ph : Shared × Hp × List Mark × Obj) (Z : Array GenState × List Mark) (pins : List (Addr × Obj)) (σ : L2.St) (H : Hp) (s : Shared) : Prop where
  inv : Inv (G.at ph.1 ph.2.1 ph.2.2.2) pins σ H s
  kz : KeepX G.g Z.1 s.gens
  lt : G.g < s.gens.size
  po : ∀ p ∈ pins, G.n0 ≤ p.1
  sz : G.n0 ≤ ph.1.heap.objs.size
  os : ph.1.os = G.os
  mks : MkS (ph.2.2.1 ++ Z.2) s
  bp : ∀ b ∈ Z.2, b.2 ∈ pins
  gd : ∀ v, ph.2.2.2.data ≠ .cell v
  pa : ∀ p ∈ pins, p.1 ≠ G.a
def GSP (G : Gc) (ph : Shared × Hp × List Mark × Obj) (Z : Array GenState × List Mark) (pins : List (Addr × Obj)) (D : GEnds) (prot : List Addr) (ds : List PyData) (f : Flow) (s : Shared) : Prop := match f with
  | .next => ∃ σ H, GIv G ph Z pins σ H s ∧ D.nx prot ph.2.1 ds σ H
  | .brk => ∃ σ H, GIv G ph Z pins σ H s ∧ D.bk prot ph.2.1 ds σ H
  | .cont => ∃ σ H, GIv G ph Z pins σ H s ∧ D.ct prot ph.2.1 ds σ H
  | .ret u => ∃ v σ H, GIv G ph Z pins σ H s ∧ RelV v u ∧ D.rt prot ph.2.1 ds v H
/-- where the code stands -/
structure GC (G : Gc) (c : Code) (fs : List Frame) (gd : Bool → Bool) : Prop where
  over : G.A.over c fs = G.A.deeper G.env
  split : splitAtGen fs = none
  guard : fs.any Frame.guarded = false
  gd : gd false = false
  yf : isYf c = none
structure GK (G : Gc) (Z : Array GenState × List Mark) (pins : List (Addr × Obj)) (c : Code) (fs : List Frame) (K : Flow → Sem PySem.Fin) (D : GEnds) : Prop where
  ok : ∀ (ph : Shared × Hp × List Mark × Obj) (prot : List Addr) (ds : List PyData) (f : Flow) (s : Shared), GSP G ph Z pins D prot ds f s → Go1 G ph prot ds c (K f) fs s
/-- zz: other generators of this frame may sleep meanwhile -/
structure GS (G : Gc) (zz : Bool) (st : Stmt) (t : TGn) : Prop where
  run : ∀ (ph : Shared × Hp × List Mark × Obj) (prot : List Addr) (ds : List PyData) (Z : Array GenState × List Mark) (pins : List (Addr × Obj)) (c : Code) (fs : List Frame) (K : Flow → Sem PySem.Fin) (J : Value → Sem PySem.Fin) (gd : Bool → Bool) (lv : List Value → List Value) (s : Shared) (σ : L2.St) (H : Hp) (D : GEnds),
    (zz = false → Z = (#[], [])) → GC G c fs gd → GK G Z pins c fs K D → GIv G ph Z pins σ H s → t D prot ph.2.1 ds σ H → Go1 G ph prot ds c ((exec st G.env).wrap K J gd lv) fs s
structure GSs (G : Gc) (zz : Bool) (st : List Stmt) (t : TGn) : Prop where
  run : ∀ (ph : Shared × Hp × List Mark × Obj) (prot : List Addr) (ds : List PyData) (Z : Array GenState × List Mark) (pins : List (Addr × Obj)) (c : Code) (fs : List Frame) (K : Flow → Sem PySem.Fin) (J : Value → Sem PySem.Fin) (gd : Bool → Bool) (lv : List Value → List Value) (s : Shared) (σ : L2.St) (H : Hp) (D : GEnds),
    (zz = false → Z = (#[], [])) → GC G c fs gd → GK G Z pins c fs K D → GIv G ph Z pins σ H s → t D prot ph.2.1 ds σ H → Go1 G ph prot ds c ((execs st G.env).wrap K J gd lv) fs s
section
variable {G : Gc} {zz : Bool} {st : Stmt} {rest : List Stmt}
theorem GIv.step {ph : Shared × Hp × List Mark × Obj} {Z : Array GenState × List Mark} {pins : List (Addr × Obj)} {σ σ' : L2.St} {H H' : Hp} {s s' : Shared} (g : GIv G ph Z pins σ H s) (k : Kp s s') (I : Inv (G.at ph.1 ph.2.1 ph.2.2.2) pins σ' H' s') : GIv G ph Z pins σ' H' s' :=
  ⟨I, g.kz.trans (k.1.x _), Nat.lt_of_lt_of_le g.lt k.1.le, g.po, g.sz, g.os, k.2 _ g.mks, g.bp, g.gd, g.pa⟩
def tPlain (t : TS) : TGn := fun D prot H0 ds σ H => t (D.at prot H0 ds) σ H
theorem gsp_of {ph : Shared × Hp × List Mark × Obj} {Z : Array GenState × List Mark} {pins : List (Addr × Obj)} {σ : L2.St} {H : Hp} {s s' : Shared} {D : GEnds} {prot : List Addr} {ds : List PyData} {f : Flow} (g : GIv G ph Z pins σ H s) (k : Kp s s') (h : SP (G.at ph.1 ph.2.1 ph.2.2.2) pins (D.at prot ph.2.1 ds) f s') : GSP G ph Z pins D prot ds f s' := by
  cases f with
  | next => obtain ⟨σ, H, I, q⟩ := h; exact ⟨σ, H, g.step k I, q⟩
  | brk => obtain ⟨σ, H, I, q⟩ := h; exact ⟨σ, H, g.step k I, q⟩
  | cont => obtain ⟨σ, H, I, q⟩ := h; exact ⟨σ, H, g.step k I, q⟩
  | ret u => obtain ⟨v, σ, H, I, r, q⟩ := h; exact ⟨v, σ, H, g.step k I, r, q⟩
theorem gs_ps {t : TS} (h : ∀ s H oa, PS (G.at s H oa) st t) : GS G zz st (tPlain t) := by
  refine ⟨fun ph prot ds Z pins c fs K J gd lv s σ H D hz g k gi ht => ?_⟩
  refine r1_wrap ?_
  rw [g.over]
  exact wpAny_mono (ps_kz (h ph.1 ph.2.1 ph.2.2.2) rfl gi.inv ht) (fun f s' hs => k.ok ph prot ds f s' (gsp_of gi hs.1 hs.2)) fun _ _ q => q
theorem gss_pss {t : TS} (h : ∀ s H oa, PSs (G.at s H oa) rest t) : GSs G zz rest (tPlain t) := by
  refine ⟨fun ph prot ds Z pins c fs K J gd lv s σ H D hz g k gi ht => ?_⟩
  refine r1_wrap ?_
  rw [g.over]
  exact wpAny_mono (pss_kz (h ph.1 ph.2.1 ph.2.2.2) rfl gi.inv ht) (fun f s' hs => k.ok ph prot ds f s' (gsp_of gi hs.1 hs.2)) fun _ _ q => q
def tG0 : TGn := fun D prot H0 ds σ H => D.nx prot H0 ds σ H
theorem gss_nil : GSs G zz [] tG0 := by
  refine ⟨fun ph prot ds Z pins c fs K J gd lv s σ H D hz g k gi ht => ?_⟩
  exact r1_execs_nil (k.ok ph prot ds .next s ⟨σ, H, gi, ht⟩)
def tGThen (t u : TGn) : TGn := fun D prot H0 ds σ H => t { D with nx := u D } prot H0 ds σ H
theorem gss_cons {t u : TGn} (a : GS G zz st t) (b : GSs G zz rest u) : GSs G zz (st :: rest) (tGThen t u) := by
  refine ⟨fun ph prot ds Z pins c fs K J gd lv s σ H D hz g k gi ht => ?_⟩
  refine r1_execs_cons (a.run ph prot ds Z pins c fs _ J gd lv s σ H { D with nx := u D } hz g ⟨fun ph' prot' ds' f s' hs => ?_⟩ gi ht)
  cases f with
  | next =>
    obtain ⟨σ', H', gi', q⟩ := hs
    exact b.run ph' prot' ds' Z pins c fs K J gd lv s' σ' H' D hz g k gi' q
  | brk => exact k.ok ph' prot' ds' .brk s' hs
  | cont => exact k.ok ph' prot' ds' .cont s' hs
  | ret u => exact k.ok ph' prot' ds' (.ret u) s' hs
theorem gss_one {t : TGn} (a : GS G zz st t) : GSs G zz [st] t := by
  refine ⟨fun ph prot ds Z pins c fs K J gd lv s σ H D hz g k gi ht => ?_⟩
  refine r1_execs_cons (a.run ph prot ds Z pins c fs _ J gd lv s σ H D hz g ⟨fun ph' prot' ds' f s' hs => ?_⟩ gi ht)
  cases f with
  | next => exact r1_execs_nil (k.ok ph' prot' ds' .next s' hs)
  | brk => exact k.ok ph' prot' ds' .brk s' hs
  | cont => exact k.ok ph' prot' ds' .cont s' hs
  | ret u => exact k.ok ph' prot' ds' (.ret u) s' hs
def tGIf (c : TT) (t u : TGn) : TGn := fun D prot H0 ds σ H => c σ H fun b H1 => if b = true then t D prot H0 ds σ H1 else u D prot H0 ds σ H1
theorem gs_if {test : Expr} {a b : List Stmt} {pos : Pos} {tc : TT} {t u : TGn} (hc : ∀ s H oa, PT (G.at s H oa) test tc) (ha : GSs G zz a t) (hb : GSs G zz b u) : GS G zz (.If test a b pos) (tGIf tc t u) := by
  refine ⟨fun ph prot ds Z pins c fs K J gd lv s σ H D hz g k gi ht => ?_⟩
  refine r1_If ?_
  rw [g.over]
  refine wpAny_mono (pt_kz (hc ph.1 ph.2.1 ph.2.2.2) rfl gi.inv ht) (fun d s' hs => ?_) fun _ _ q => q
  obtain ⟨kk, H1, I1, q1⟩ := hs
  cases d with
  | true => exact ha.run ph prot ds Z pins c fs K J gd lv s' σ H1 D hz g k (gi.step kk I1) q1
  | false => exact hb.run ph prot ds Z pins c fs K J gd lv s' σ H1 D hz g k (gi.step kk I1) q1

/-! ### yield -/
theorem Guar.of {ph : Shared × Hp × List Mark × Obj} {pins : List (Addr × Obj)} {σ : L2.St} {H : Hp} {s : Shared} (I : Inv (G.at ph.1 ph.2.1 ph.2.2.2) pins σ H s) (c : Chg [] [] ph.2.1 H) : Guar G.P G.w G.outer G.n0 ph.2.1 ph.1 H s := ⟨I.os, I.bare, I.base, I.hok, c⟩
/-- what is kept while it sleeps -/
def kpOf (G : Gc) (pins : List (Addr × Obj)) (s : Shared) : List (Addr × Obj) := pinsAt [G.env.locals] s.heap ++ pins
theorem kpOk_of (ok : G.Ok) {ph : Shared × Hp × List Mark × Obj} {pins : List (Addr × Obj)} {σ : L2.St} {H : Hp} {s : Shared} (I : Inv (G.at ph.1 ph.2.1 ph.2.2.2) pins σ H s) (hp : ∀ p ∈ pins, G.n0 ≤ p.1) (ha : ∀ p ∈ pins, p.1 ≠ G.a) : KpOk G.n0 G.a ph.2.2.2 (kpOf G pins s) H s := by
  have own : ∀ p ∈ (G.a, ph.2.2.2) :: pins, s.heap.get? p.1 = some p.2 ∧ H p.1 = none ∧ (∀ v, p.2.data ≠ .cell v) ∧ G.n0 ≤ p.1 := fun p h => by
    obtain ⟨h1, h2, h3, h4, h5⟩ := I.pin p h
    refine ⟨h1, h2, h5, ?_⟩
    rcases List.mem_cons.mp h with h | h
    · rw [h]; exact ok.ga
    · exact hp p h
  refine ⟨fun p h => ?_, fun p h => ?_⟩
  rotate_left
  · rcases List.mem_append.mp h with h | h
    · rw [List.mem_singleton.mp (of_pinsAt h).1]; exact Ne.symm ok.gal
    · exact ha p h
  rcases List.mem_cons.mp h with h | h
  · rw [h]; exact own _ (List.mem_cons_self ..)
  rcases List.mem_append.mp h with h | h
  · obtain ⟨h1, h2⟩ := of_pinsAt h
    have e := List.mem_singleton.mp h1
    obtain ⟨m, ⟨o, es, ep, ho, hd, _⟩, _⟩ := I.loc
    have ho : s.heap.get? G.env.locals = some o := ho
    rw [← e, h2] at ho
    cases ho
    exact ⟨h2, by rw [e]; exact I.free, (fun v z => by rw [hd] at z; cases z), by rw [e]; exact ok.loc⟩
  · exact own p (List.mem_cons_of_mem _ h)
/-- woken again -/
theorem rebased (ok : G.Ok) {ph : Shared × Hp × List Mark × Obj} {pins : List (Addr × Obj)} {σ : L2.St} {H H' : Hp} {s s' : Shared} {prot : List Addr} {A : Around} (I : Inv (G.at ph.1 ph.2.1 ph.2.2.2) pins σ H s) (hc : ∀ x c, G.env.cells.lookup x = some c → False)
    {oa : Obj} (hd : ∀ v, oa.data ≠ .cell v) (r : Rely G.P G.w G.K G.mg G.base A G.outer G.g ((G.a, oa) :: kpOf G pins s) prot H s H' s') (hA : G.A.frames = A.frames) : Inv (G.at s' H' oa) pins σ H' s' := by
  obtain ⟨m, ⟨o, es, ep, ho, hdl⟩, hl⟩ := I.loc
  have ho : s.heap.get? G.env.locals = some o := ho
  have hL := r.kp (G.env.locals, o) (List.mem_cons_of_mem _ (List.mem_append_left _ (mem_pinsAt (List.mem_singleton.mpr rfl) ho)))
  have e0 : Env0 G.P G.w G.K G.mg G.base G.A G.outer s' H' := ⟨hA.trans r.e0.frames, r.e0.mod, r.e0.bs, r.e0.bsz, r.e0.funs, r.e0.frf, r.e0.hok, r.e0.bare⟩
  refine Gc.inv ok e0 (Nat.le_trans ok.loc (Nat.le_of_lt (Heap.lt_size hL.1))) ⟨m, ⟨o, es, ep, hL.1, hdl⟩, fun i x v e1 e2 e3 => ?_⟩ (fun x c e => (hc x c e).elim) hL.2 (fun x c e => (hc x c e).elim) (fun p hp => ?_) I.len
  · obtain ⟨u, ru, q⟩ := hl i x v e1 e2 e3
    refine ⟨u, ru, ?_⟩
    rcases q with q | ⟨k, c, e, _⟩
    · exact .inl q
    · exact (hc x c e).elim
  · rcases List.mem_cons.mp hp with hp | hp
    · obtain ⟨h1, h2, h3, h4, h5⟩ := I.pin (G.a, ph.2.2.2) (List.mem_cons_self ..)
      rw [hp]
      obtain ⟨k1, k2⟩ := r.kp (G.a, oa) (List.mem_cons_self ..)
      exact ⟨k1, k2, h3, h4, hd⟩
    · obtain ⟨h1, h2, h3, h4, h5⟩ := I.pin p (List.mem_cons_of_mem _ hp)
      obtain ⟨k1, k2⟩ := r.kp p (List.mem_cons_of_mem _ (List.mem_append_right _ hp))
      exact ⟨k1, k2, h3, h4, h5⟩
theorem rely_sz (ok : G.Ok) {ph : Shared × Hp × List Mark × Obj} {pins : List (Addr × Obj)} {σ : L2.St} {H H' : Hp} {s s' : Shared} {prot : List Addr} {A : Around} (I : Inv (G.at ph.1 ph.2.1 ph.2.2.2) pins σ H s) {oa : Obj} (r : Rely G.P G.w G.K G.mg G.base A G.outer G.g ((G.a, oa) :: kpOf G pins s) prot H s H' s') : G.n0 ≤ s'.heap.objs.size := by
  obtain ⟨m, ⟨o, es, ep, ho, hd⟩, hl⟩ := I.loc
  have hL := r.kp (G.env.locals, o) (List.mem_cons_of_mem _ (List.mem_append_left _ (mem_pinsAt (List.mem_singleton.mpr rfl) ho)))
  exact Nat.le_trans ok.loc (Nat.le_of_lt (Heap.lt_size hL.1))
def tGYield (te : TE) : TGn := fun D prot H0 ds σ H => te σ H fun x H1 => ∃ d ds' prot', ds = d :: ds' ∧ Ft H1 d x ∧ Chg [] [] H0 H1 ∧ (∀ y ∈ prot', (y ∈ prot ∨ H0 y = none) ∧ H1 y ≠ none) ∧ ∀ H2, Tups H1 H2 → (∀ y ∈ prot', H2 y = H1 y) → D.nx prot' H2 ds' σ H2
end
theorem r1_Expr_Yield {M : Model} {A : Around} {R : Ret1} {Y : Yld1} {c : Code} {fs : List Frame} {s : Shared} {env : Env} {K : Flow → Sem PySem.Fin} {J : Value → Sem PySem.Fin} {gd : Bool → Bool} {lv : List Value → List Value} {e : Expr} {ypos pos : Pos} (hfs : splitAtGen fs = none) (hgd : gd false = false) (hfg : fs.any Frame.guarded = false)
    (h : wpAny M (A.over c fs) (eval e env) (fun v s' => ∀ kk : Resume → Sem PySem.Fin, (∀ R' Y' s'', R1 M A R' Y' c (K .next) fs s'' → R1 M A R' Y' c (kk (.send .none)) fs s'') → Y v kk c fs s') NoX s) (hco : env.scope.isCoroutine = false := by rfl) (hi : interactive env = false := by rfl) :
    R1 M A R Y c ((exec (.Expr (.Yield (some e) ypos) pos) env).wrap K J gd lv) fs s := by
  rw [exec_Expr env _ pos hi rfl]
  show R1 M A R Y c (.at pos fun _ => ((eval e env >>= fun v => (standAt ypos >>= fun _ => yieldOut env v)) >>= fun x =>
    dropValue (.Yield (some e) ypos) pos x).wrap K J gd lv) fs s
  have hy : ∀ v, yieldOut env v = yieldValue v := fun v => by simp only [yieldOut, hco, Bool.false_eq_true, if_false]
  simp only [hy]
  refine r1_at ?_
  rw [Sem.bind_eq_wrap', Sem.bind_eq_wrap', Sem.wrap_wrap, Sem.wrap_wrap]
  refine r1_wrap (wpAny_mono h (fun v s' h' => ?_) fun _ _ q => q)
  refine r1_at (r1_yield hfs hgd hfg ?_)
  exact h' _ fun R' Y' s'' hx => hx
section
variable {G : Gc} {zz : Bool}
theorem gs_yield (ok : G.Ok) (hc : ∀ x c, G.env.cells.lookup x = some c → False) {e : Expr} {yp pos : Pos} {te : TE} (he : ∀ s H oa, PE (G.at s H oa) e te) (hfA : G.A.frames = some G.outer) (hco : G.env.scope.isCoroutine = false := by rfl) (hi : interactive G.env = false := by rfl) : GS G zz (.Expr (.Yield (some e) yp) pos) (tGYield te) := by
  refine ⟨fun ph prot ds Z pins c fs K J gd lv s σ H D hz g k gi ht => ?_⟩
  refine r1_Expr_Yield g.split g.gd g.guard ?_ hco hi
  rw [g.over]
  refine wpAny_mono (pe_kz (he ph.1 ph.2.1 ph.2.2.2) rfl gi.inv ht) (fun v s' hs => ?_) fun _ _ q => q
  obtain ⟨kk, x, H1, I1, rx, d, ds', prot', rfl, fx, c1, hp, hn⟩ := hs
  have gi1 := gi.step kk I1
  intro kn hk
  refine ⟨d, ds', x, prot', kpOf G pins s', Z.2, H1, rfl, rx, fx, Guar.of I1 c1, hp, kpOk_of ok I1 gi.po gi.pa, gi1.mks, fun b hb => List.mem_append_right _ (gi1.bp b hb), fun y hy => ?_, fun l p cl => rdy_iff.mpr fun Bf oa2 H2 s2 hd2 hl2 r m => ?_⟩
  · rw [g.yf] at hy; cases hy
  refine hk _ _ s2 ?_
  refine k.ok (s2, H2, Bf, oa2) prot' ds' .next s2 ⟨σ, H2, ⟨rebased ok I1 hc hd2 r rfl, gi1.kz.trans r.gens, Nat.lt_of_lt_of_le gi1.lt r.gens.le, gi.po, rely_sz ok I1 r, r.os.trans (I1.os.trans gi.os), m, gi.bp, hd2, gi.pa⟩, hn H2 r.tups r.prot⟩
end
end SG
namespace SG
open PySem PyProof.Rows L2
/-! ### for over what walks -/
def tGFor (wi : TI) (g : TG) (tb : TGn) : TGn := fun D prot H0 ds σ H => wi σ H fun J H1 => ∃ W : Nat → Nat → List Addr → Hp → List PyData → L2.St → Hp → Prop, (∃ m, W 0 m prot H0 ds σ H1) ∧ ∀ i m prot H0 ds σ H, W i m prot H0 ds σ H →
  (J.stop i H ∧ D.nx prot H0 ds σ H) ∨ (J.go i H ∧ ∃ N : List Addr → Hp → List PyData → L2.St → Hp → Prop, (∀ prot' H0' ds' σ' H', N prot' H0' ds' σ' H' → ∃ m', m' < m ∧ W (i + 1) m' prot' H0' ds' σ' H') ∧ ∀ x H', J.yld i H x H' → g x σ H' fun σ2 H2 => tb { D with nx := N, ct := N, bk := D.nx } prot H0 ds σ2 H2)
section
variable {G : Gc} {zz : Bool}
theorem gc_loop {c c' : Code} {fs : List Frame} {gd : Bool → Bool} {k : Result → Sem PySem.Fin} {l kp : List Value} {p : Pos} (g : GC G c fs gd) (hw : c'.weight = 0) (hu : c'.cUnits = 0) (hy : isYf c' = none) : GC G c' (.ret k none (gd false) l c p kp :: fs) id where
  over := (GenW.over_loop hw hu).trans g.over
  split := by
    show (splitAtGen fs).map _ = none
    rw [g.split]; rfl
  guard := by
    show (gd false || fs.any Frame.guarded) = false
    rw [g.gd, g.guard]; rfl
  gd := rfl
  yf := hy
/-- what never changes of an iterator's objects -/
structure FpS (G : Gc) (pins : List (Addr × Obj)) (b : Addr) : Prop where
  loc : b ≠ G.env.locals
  fs : b ∉ frs G.outer
  n0 : G.n0 ≤ b
  cell : ∀ x c, G.env.cells.lookup x = some c → c ≠ b
  pin : ∀ p ∈ pins, p.1 ≠ b
  own : G.a ≠ b
theorem FpS.of {ph : Shared × Hp × List Mark × Obj} {pins : List (Addr × Obj)} {H : Hp} {b : Addr} (h : FpOk (G.at ph.1 ph.2.1 ph.2.2.2) pins H b) (hn : G.n0 ≤ ph.1.heap.objs.size) : FpS G pins b := by
  obtain ⟨f0, f1, f2, f3, f4, f5⟩ := h
  refine ⟨f1, f2, ?_, f4, fun p hp => f5 p (List.mem_cons_of_mem _ hp), f5 (G.a, ph.2.2.2) (List.mem_cons_self ..)⟩
  rcases f3 with z | z
  · exact absurd z (by show b ∉ ([] : List Addr); simp)
  · have z : (cutH G.n0 ph.1.heap).objs.size ≤ b := z
    rwa [cutH_size hn] at z
theorem FpS.ok {ph : Shared × Hp × List Mark × Obj} {pins : List (Addr × Obj)} {H : Hp} {b : Addr} (h : FpS G pins b) (hn : G.n0 ≤ ph.1.heap.objs.size) (e : H b = none) : FpOk (G.at ph.1 ph.2.1 ph.2.2.2) pins H b :=
  ⟨e, h.loc, h.fs, .inr (by show (cutH G.n0 ph.1.heap).objs.size ≤ b; rw [cutH_size hn]; exact h.n0), h.cell, fun p hp => (List.mem_cons.mp hp).elim (fun z => by rw [z]; exact h.own) (h.pin p)⟩
theorem gs_for {tg iter : Expr} {body : List Stmt} {wi : TI} {g : TG} {tb : TGn} {pos : Pos} (hi : ∀ s H oa, PI (G.at s H oa) tg iter wi) (hg : ∀ s H oa, PG (G.at s H oa) tg g) (hb : GSs G zz body tb) (hs : ∀ x, foldedSetIterable iter G.env x = pure x := by intro _; rfl) :
    GS G zz (.For tg iter body [] pos) (tGFor wi g tb) := by
  refine ⟨fun ph prot ds Z pins c fs K J gd lv s σ H D hz gc k gi ht => ?_⟩
  refine r1_For ?_ hs
  rw [gc.over]
  refine wpAny_mono (pi_kz (hi ph.1 ph.2.1 ph.2.2.2) rfl gi.inv ht) (fun v s1 h1 => wpAny_mono h1 (fun itv s2 h2 => ?_) fun _ _ q => q) fun _ _ q => q
  obtain ⟨k2, it, fp, tn, J', H2, rfl, I2, T, st2, f2, W, ⟨m0, w0⟩, turn⟩ := h2
  intro p
  have fst : ∀ b ∈ fp, FpS G pins b := fun b hb => FpS.of (f2 b hb) gi.sz
  have gl : GC G (.forLoop tg (.ref it) body [] G.env) (.ret (loopK G.env K J gd lv) none (gd false) (lv []) c p [] :: fs) id := gc_loop gc rfl rfl rfl
  have go : ∀ (m : Nat) (ph : Shared × Hp × List Mark × Obj) (prot : List Addr) (ds : List PyData) (i : Nat) (s : Shared) (σ : L2.St) (H : Hp), W i m prot ph.2.1 ds σ H → GIv G ph Z pins σ H s → tn i s.heap → (∀ b ∈ fp, H b = none) →
      Go1 G ph prot ds (.forLoop tg (.ref it) body [] G.env) ((Mz G.P G.w).den (.forLoop tg (.ref it) body [] G.env)) (.ret (loopK G.env K J gd lv) none (gd false) (lv []) c p [] :: fs) s := by
    intro m
    induction m using Nat.strongRecOn with
    | ind m ih =>
      intro ph prot ds i s σ H w gi st fr
      refine r1_forLoop ?_
      rw [gl.over]
      have fok : ∀ b ∈ fp, FpOk (G.at ph.1 ph.2.1 ph.2.2.2) pins H b := fun b hb => (fst b hb).ok gi.sz (fr b hb)
      rcases turn i m prot ph.2.1 ds σ H w with ⟨stop, qn⟩ | ⟨go, N, hN, step⟩
      · refine wpAny_mono (done_kz T (X := G.at ph.1 ph.2.1 ph.2.2.2) rfl rfl rfl rfl gi.inv fok st stop) (fun r s4 ⟨hr, k4, I4⟩ => ?_) fun _ _ q => q
        subst hr
        exact fun c' => r1_leaf (.ok .next) (k.ok ph prot ds .next s4 ⟨σ, H, gi.step k4 I4, qn⟩)
      · refine wpAny_mono (item_kz T (X := G.at ph.1 ph.2.1 ph.2.2.2) rfl rfl rfl rfl gi.inv fok st go) (fun r s4 ⟨u, hr, h4⟩ => ?_) fun _ _ q => q
        subst hr
        refine wpAny_mono h4 (fun _ s5 ⟨k5, x, H5, I5, r5, y5, st5, fr5⟩ => ?_) fun _ _ q => q
        have gi5 := gi.step k5 I5
        have I5' := I5.pinned (fun b hb => (fst b hb).ok gi.sz (fr5 b hb)) (T.obj _ _ st5)
        refine wpAny_mono (pg_kz (hg ph.1 ph.2.1 ph.2.2.2) rfl I5' r5 (step x H5 y5)) (fun _ s6 ⟨k6, σ6, H6, I6, q6⟩ => ?_) fun _ _ q => q
        have gi6 : GIv G ph Z (pins ++ pinsAt fp s5.heap) σ6 H6 s6 := ⟨I6, gi5.kz.trans (k6.1.x _), Nat.lt_of_lt_of_le gi5.lt k6.1.le, fun p hp => (List.mem_append.mp hp).elim (gi.po p) fun z => (fst _ (of_pinsAt z).1).n0, gi.sz, gi.os, k6.2 _ gi5.mks, fun b hb => List.mem_append_left _ (gi.bp b hb), gi5.gd, fun p hp => (List.mem_append.mp hp).elim (gi.pa p) fun z => Ne.symm (fst _ (of_pinsAt z).1).own⟩
        refine hb.run ph prot ds Z _ _ _ _ _ id id s6 σ6 H6 _ hz gl ⟨fun ph' prot' ds' f s7 hs => ?_⟩ gi6 q6
        have again : ∀ {σ7 : L2.St} {H7 : Hp}, GIv G ph' Z (pins ++ pinsAt fp s5.heap) σ7 H7 s7 → N prot' ph'.2.1 ds' σ7 H7 → Go1 G ph' prot' ds' (.forLoop tg (.ref it) body [] G.env) ((Mz G.P G.w).den (.forLoop tg (.ref it) body [] G.env)) (.ret (loopK G.env K J gd lv) none (gd false) (lv []) c p [] :: fs) s7 := fun {σ7 H7} gi7 n7 => by
          obtain ⟨m', hm, w7⟩ := hN prot' ph'.2.1 ds' σ7 H7 n7
          refine ih m' hm ph' prot' ds' (i + 1) s7 σ7 H7 w7 ⟨gi7.inv.unpinned, gi7.kz, gi7.lt, gi.po, gi7.sz, gi7.os, gi7.mks, gi.bp, gi7.gd, gi.pa⟩ (T.keep _ _ _ st5 fun b hb o e => (gi7.inv.pin (b, o) (List.mem_append_right _ (List.mem_append_right _ (mem_pinsAt hb e)))).1) fun b hb => ?_
          obtain ⟨o, e, d⟩ := T.obj _ _ st5 b hb
          exact (gi7.inv.pin (b, o) (List.mem_append_right _ (List.mem_append_right _ (mem_pinsAt hb e)))).2.1
        have un : ∀ {σ7 : L2.St} {H7 : Hp}, GIv G ph' Z (pins ++ pinsAt fp s5.heap) σ7 H7 s7 → GIv G ph' Z pins σ7 H7 s7 := fun gi7 => ⟨gi7.inv.unpinned, gi7.kz, gi7.lt, gi.po, gi7.sz, gi7.os, gi7.mks, gi.bp, gi7.gd, gi.pa⟩
        cases f with
        | next => obtain ⟨σ7, H7, gi7, n7⟩ := hs; exact r1_again rfl (again gi7 n7)
        | cont => obtain ⟨σ7, H7, gi7, n7⟩ := hs; exact r1_again rfl (again gi7 n7)
        | brk => obtain ⟨σ7, H7, gi7, q7⟩ := hs; exact r1_leaf (.ok .next) (k.ok ph' prot' ds' .next s7 ⟨σ7, H7, un gi7, q7⟩)
        | ret v => obtain ⟨x7, σ7, H7, gi7, r7, q7⟩ := hs; exact r1_leaf (.ok (.ret v)) (k.ok ph' prot' ds' (.ret v) s7 ⟨x7, σ7, H7, un gi7, r7, q7⟩)
  exact go m0 ph prot ds 0 s2 σ H2 w0 (gi.step k2 I2) st2 fun b hb => (f2 b hb).1
end
end SG
namespace SG
open PySem PyProof.Rows L2
/-! ### generator defs -/
/-- called with vs in H it hands out ds; what it needs to stay meanwhile -/
abbrev GSp := List V → Hp → List PyData → List Addr → Prop
def IsGO (oa : Obj) (g : Nat) : Prop := oa.cls = .type "generator" ∧ (∃ nm qn, oa.data = .fields #[.int g 0, nm, qn]) ∧ oa.slots = #[]
theorem IsGO.gen {oa : Obj} {g : Nat} {h : Heap} {a : Addr} (x : IsGO oa g) (e : h.get? a = some oa) : h.IsGen a g := let ⟨c, ⟨nm, qn, d⟩, s⟩ := x; ⟨oa, nm, qn, e, c, d, s⟩
theorem IsGO.nocell {oa : Obj} {g : Nat} (x : IsGO oa g) : ∀ v, oa.data ≠ .cell v := let ⟨_, ⟨nm, qn, d⟩, _⟩ := x; fun v z => by rw [d] at z; cases z
structure Drw (P : Program) (w : World) (K : PySem.W.Frag) (mg : Str → Option Value) (base : Heap) (k : Nat) (outer : List Env) (n0 : Nat) (ds : List PyData) (prot : List Addr) (H : Hp) (s : Shared) (a : Addr) (g : Nat) (oa : Obj) (kp : List (Addr × Obj)) (gs : GenState) : Prop where
  go : IsGO oa g
  at_ : s.gens[g]? = some gs
  kpa : ∀ p ∈ (a, oa) :: kp, s.heap.get? p.1 = some p.2 ∧ H p.1 = none
  na : n0 ≤ a
  ap : ∀ p ∈ kp, p.1 ≠ a
  rdy : ∀ A, Room k A → A.frames = some outer → Rdy P w K mg base A outer n0 a g ds prot kp [] H s gs
structure GnOk (P : Program) (w : World) (K : PySem.W.Frag) (mg : Str → Option Value) (base : Heap) (k : Nat) (f : Addr) (fd : FuncData) (ps : List Str) (sp : GSp) : Prop where
  len : ∀ vs H ds prot, sp vs H ds prot → vs.length = ps.length
  run : ∀ (B : List Mark) (A : Around) (outer : List Env) (s : Shared) (H : Hp) (args : Args) (us : List Value) (vs : List V) (ds : List PyData) (prot : List Addr), MkS B s → Room k A → Env0 P w K mg base A outer s H → BindsTo s fd args (ps.zip us) → Vals vs us → sp vs H ds prot →
    codeAny (Mz P w) A (.call (.ref f) args) (fun r s' => match r with
      | .ok (.ret u) => MkS B s' ∧ ∃ a g oa kp gs, u = .ref a ∧ s'.os = s.os ∧ AllBare s'.gens ∧ (∀ b o, s.heap.get? b = some o → s'.heap.get? b = some o) ∧ s.gens.size ≤ g ∧ Drw P w K mg base k outer s.heap.objs.size ds prot H s' a g oa kp gs
      | _ => False) s
theorem GnOk.mono {P : Program} {w : World} {K : PySem.W.Frag} {mg : Str → Option Value} {base : Heap} {j k : Nat} {f : Addr} {fd : FuncData} {ps : List Str} {sp : GSp} (F : GnOk P w K mg base j f fd ps sp) (h : j ≤ k) : GnOk P w K mg base k f fd ps sp :=
  ⟨F.len, fun B A outer s H args us vs ds prot m hr e0 hb r hs => codeAny_mono (F.run B A outer s H args us vs ds prot m (hr.mono h) e0 hb r hs) fun r s' q => by
    cases r with
    | error e => exact q
    | ok fl => cases fl with
      | ret u =>
        obtain ⟨m', a, g, oa, kp, gs, h1, h2, h3, h4, h5, d⟩ := q
        exact ⟨m', a, g, oa, kp, gs, h1, h2, h3, h4, h5, d.go, d.at_, d.kpa, d.na, d.ap, fun A hA hf => d.rdy A (hA.mono h) hf⟩
      | next => exact q
      | brk => exact q
      | cont => exact q⟩
def GFin : GEnds := { nx := fun prot H0 ds σ H => ds = [] ∧ Chg [] [] H0 H, rt := fun prot H0 ds v H => v = .non ∧ ds = [] ∧ Chg [] [] H0 H }
/-- the context of a generator def's body -/
def gcOf (P : Program) (w : World) (K : PySem.W.Frag) (mg : Str → Option Value) (base : Heap) (N : List Str) (qual : Str) (scope : Scope) (f : Addr) (cd : Value) (A : Around) (outer : List Env) (n0 : Nat) (a : Addr) (g : Nat) (os : OsState) : Gc :=
  { P := P, w := w, K := K, mg := mg, base := base, N := N, env := envOfC qual scope n0 f cd, A := A, outer := outer, n0 := n0, a := a, g := g, os := os }
/-- behind the body of a generator -/
abbrev Kend : Flow → Sem PySem.Fin := fun f => .pure (.done (.ret (match f with | .ret v => v | _ => .none)))
abbrev Jend (env : Env) : Value → Sem PySem.Fin := fun e => (leaving env e).wrap (fun _ => .raise e) .raise id id
theorem gn_raw {P : Program} {w : World} {K : PySem.W.Frag} {mg : Str → Option Value} {base : Heap} {k : Nat} {f : Addr} {name qual : Str} {params : Arguments} {body : List Stmt} {scope : Scope} {dV kV doc pm cdv ct oc : Value} {an od : Option Addr}
    {osl : Array (Option Value)} {N ps : List Str} {sp : GSp} (lk : K.lookup f = some ⟨oc, od, .func (PySem.W.fnOf name qual params body scope dV kV doc pm an cdv ct), osl⟩) (hcd : PySem.W.codeIn K cdv qual = true) (S : GScope N ps scope)
    (len : ∀ vs H ds prot, sp vs H ds prot → vs.length = ps.length)
    (hbody : ∀ (A : Around) (outer : List Env) (n0 : Nat) (a : Addr) (g : Nat) (os : OsState) (H : Hp) (vs : List V) (ds : List PyData) (prot : List Addr), Room k (A.deeper (envOfC qual scope n0 f cdv)) → A.frames = some outer → (gcOf P w K mg base N qual scope f cdv A outer n0 a g os).Ok → sp vs H ds prot →
      ∀ (ph : Shared × Hp × List Mark × Obj) (H' : Hp) (s' : Shared), ph.2.1 = H' → GIv (gcOf P w K mg base N qual scope f cdv A outer n0 a g os) ph (#[], []) [] (start N vs) H' s' → Tups H H' → (∀ y ∈ prot, H' y = H y) →
        Go1 (gcOf P w K mg base N qual scope f cdv A outer n0 a g os) ph prot ds (.func body (envOfC qual scope n0 f cdv)) ((execs body (envOfC qual scope n0 f cdv)).wrap Kend (Jend (envOfC qual scope n0 f cdv)) id id) [] s') :
    GnOk P w K mg base (k + 1) f (PySem.W.fnOf name qual params body scope dV kV doc pm an cdv ct) ps sp := by
  refine ⟨len, fun B A outer s H args us vs ds prot m hr e0 hb r hsp => ?_⟩
  have hl := len _ _ _ _ hsp
  have KX : K.In s.heap := e0.mod.kin.keeps fun b o e => (e0.bs b o e).1
  have lim : s.heap.NoLimit := e0.mod.nolimit.keeps fun b o e => (e0.bs b o e).1
  have hkind : ∀ y ∈ ps.zip us, scope.names.lookup y.1 = some .local ∨ (scope.names.lookup y.1 = some .cell ∧ ((cellsFrom (s.heap.objs.size + 1) scope.names []).lookup y.1).isSome = true) := fun ⟨n, v⟩ hy => by
    rcases S.par n (List.of_mem_zip hy).1 with q | q
    · exact .inl q
    · exact .inr ⟨q, PySem.W.cellsFrom_some _ _ _ (.inl q)⟩
  refine cz_enter hr.depth (KX _ _ lk) rfl S.co rfl (PySem.W.codeRec_of KX hcd) (hb _ _ _ _ ?_)
  refine wpAny_newFunctionEnv_cells S.kind hkind fun env he s1 x => ?_
  subst he
  have lim1 : s1.heap.NoLimit := lim.keeps x.toInCall.keep
  refine ⟨lim1, fun z => (by rw [S.gen] at z; cases z), fun _ => ?_⟩
  obtain ⟨h1, tk, es1, hk1⟩ := x.done
  have os1 : s1.os = s.os := by rw [es1]
  have gen1 : s1.gens = s.gens := by rw [es1]
  have lt1 : s.heap.objs.size < s1.heap.objs.size := x.toInCall.ns.lt
  have sz1 : s.heap.objs.size ≤ s1.heap.objs.size := Nat.le_of_lt lt1
  have mk1 : ∀ (c : Code) (tk : Nat) (hp : Heap), MkS B { s1 with gens := s1.gens.push (.fresh c), toks := tk, heap := hp } := fun c tk hp => MkS.push (m.same gen1)
  have kp1 : ∀ b o, s.heap.get? b = some o → s1.heap.get? b = some o := x.toInCall.keep
  have main : ∀ (go : Obj) (nm qn : Value) (tk2 : Nat), go.cls = .type "generator" → go.data = .fields #[.int s1.gens.size 0, nm, qn] → go.slots = #[] → (∀ h : Heap, (h.push go).get? h.objs.size = some go) →
      ∃ a g oa kp gs, (Value.ref s1.heap.objs.size) = .ref a ∧ s1.os = s.os ∧ AllBare (s1.gens.push (.fresh (.func body (envOfC qual scope s.heap.objs.size f cdv)))) ∧ (∀ b o, s.heap.get? b = some o → (s1.heap.push go).get? b = some o) ∧ s.gens.size ≤ g ∧
        Drw P w K mg base (k + 1) outer s.heap.objs.size ds prot H { s1 with gens := s1.gens.push (.fresh (.func body (envOfC qual scope s.heap.objs.size f cdv))), toks := tk2, heap := s1.heap.push go } a g oa kp gs := by
    intro go nm qn tk2 hgc hgd0 hgs hgp
    have hpushed : (s1.heap.push go).get? s1.heap.objs.size = some go := hgp _
    have up : ∀ b o, s1.heap.get? b = some o → (s1.heap.push go).get? b = some o := fun b o e => Heap.get?_push_of_some _ e
    have I0 : ∀ (Aw : Around), Aw.handled = none → Aw.frames = some outer → Inv (gcxOf P w K mg base N qual scope f cdv Aw outer s H E0 []) [] (start N vs) H s1 := fun Aw h1 h2 =>
      inv_startG S h1 ⟨h2, e0.mod, e0.bs, e0.bsz, e0.funs, e0.frf, e0.hok, e0.bare⟩ hl r x
    have I1 := I0 A hr.hd e0.frames
    refine ⟨s1.heap.objs.size, s1.gens.size, go, pinsAt (s.heap.objs.size :: (cellsFrom (s.heap.objs.size + 1) scope.names []).map (·.2)) s1.heap, _, rfl, os1, AllBare.push (by rw [gen1]; exact e0.bare) rfl, fun b o e => up b o (kp1 b o e), by rw [gen1]; exact Nat.le_refl _, ⟨hgc, ⟨nm, qn, hgd0⟩, hgs⟩, Array.getElem?_push_size .., fun p hp => ?_, sz1, fun p hp => ?_, fun Aw hrw hfr => rdy_iff.mpr fun Bf oa2 H2 s2 hgd hn2 rl mk2 => ⟨rfl, ?_⟩⟩
    · rcases List.mem_cons.mp hp with hp | hp
      · rw [hp]
        exact ⟨hpushed, I1.hok.fresh (Nat.le_refl _)⟩
      · obtain ⟨h1, h2⟩ := of_pinsAt hp
        refine ⟨up _ _ h2, ?_⟩
        rcases List.mem_cons.mp h1 with h1 | h1
        · rw [h1]; exact I1.free
        · obtain ⟨q, hq, e⟩ := List.mem_map.mp h1
          rw [← e]
          exact e0.hok.fresh (Nat.le_of_lt (x.above q.1 q.2 hq))
    · exact Nat.ne_of_lt (Heap.lt_size (of_pinsAt hp).2)
    have I1 := I0 Aw hrw.hd hfr
    have keep : ∀ b o, b ∈ (s.heap.objs.size :: (cellsFrom (s.heap.objs.size + 1) scope.names []).map (·.2)) → s1.heap.get? b = some o → s2.heap.get? b = some o ∧ H2 b = none := fun b o hb e => rl.kp (b, o) (List.mem_cons_of_mem _ (mem_pinsAt hb e))
    have kgo := rl.kp (s1.heap.objs.size, oa2) (List.mem_cons_self ..)
    obtain ⟨m, ⟨oL, es, ep, hoL, hdL⟩, hl1⟩ := I1.loc
    have hoL : s1.heap.get? s.heap.objs.size = some oL := hoL
    have kL := keep _ oL (List.mem_cons_self ..) hoL
    have old : ∀ b ∈ frs outer, b < s.heap.objs.size := fun b hb => by
      obtain ⟨_, o, ho, _⟩ := e0.funs.mem hb
      exact Heap.lt_size ho
    have e2 : Env0 P w K mg base Aw outer s2 H2 := ⟨hfr, rl.e0.mod, rl.e0.bs, rl.e0.bsz, rl.e0.funs, rl.e0.frf, rl.e0.hok, rl.e0.bare⟩
    have gok : (gcOf P w K mg base N qual scope f cdv Aw outer s.heap.objs.size s1.heap.objs.size s1.gens.size s1.os).Ok := ⟨S.kind, rfl, rfl, Nat.le_refl _, rfl, I1.ok.inj, I1.ok.has, fun y c e => I1.ok.cab y c rfl e, hrw.hd, e0.bsz, old, sz1, Nat.ne_of_gt lt1⟩
    have cellK : ∀ y c, (cellsFrom (s.heap.objs.size + 1) scope.names []).lookup y = some c → ∀ v, s1.heap.IsCell c v → s2.heap.IsCell c v ∧ H2 c = none := fun y c e v ⟨oc, hoc, hd⟩ => by
      have := keep c oc (List.mem_cons_of_mem _ (List.mem_map.mpr ⟨(y, c), PySem.mem_of_lookup e, rfl⟩)) hoc
      exact ⟨⟨oc, this.1, hd⟩, this.2⟩
    have I2 : Inv ((gcOf P w K mg base N qual scope f cdv Aw outer s.heap.objs.size s1.heap.objs.size s1.gens.size s1.os).at s2 H2 oa2) [] (start N vs) H2 s2 := by
      refine Gc.inv gok e2 (Nat.le_of_lt (Heap.lt_size kL.1)) ⟨m, ⟨oL, es, ep, kL.1, hdL⟩, fun i y v e1 e2 e3 => ?_⟩ (fun y c e => ?_) kL.2 (fun y c e => ?_) (fun p hp => ?_) I1.len
      · obtain ⟨u, ru, q⟩ := hl1 i y v e1 e2 e3
        refine ⟨u, ru, ?_⟩
        rcases q with q | ⟨kk, c, e, q⟩
        · exact .inl q
        · exact .inr ⟨kk, c, e, (cellK y c e _ q).1⟩
      · obtain ⟨v, q⟩ := I1.cell y c e
        exact ⟨v, (cellK y c e _ q).1⟩
      · obtain ⟨v, q⟩ := I1.cell y c e
        exact (cellK y c e _ q).2
      · rw [List.mem_singleton.mp hp]
        exact ⟨kgo.1, kgo.2, Nat.ne_of_gt lt1, fun z => absurd (old _ z) (Nat.not_lt.mpr sz1), hgd⟩
    have hsz : s1.gens.size < s2.gens.size := by
      have := rl.gens.le
      have h2 : (s1.gens.push (.fresh (.func body (envOfC qual scope s.heap.objs.size f cdv)))).size ≤ s2.gens.size := this
      rw [Array.size_push] at h2
      exact h2
    have go1 := hbody Aw outer s.heap.objs.size s1.heap.objs.size s1.gens.size s1.os H vs ds prot (hrw.deeper _) hfr gok hsp (s2, H2, Bf, oa2) H2 s2 rfl
      ⟨I2, KeepX.empty, hsz, (fun p hp => by cases hp), Nat.le_of_lt (Heap.lt_size kL.1), rl.os, mk2, (fun b hb => by cases hb), hgd, (fun p hp => by cases hp)⟩ rl.tups rl.prot
    exact r1_func go1
  exact ⟨mk1 _ _ _, main _ _ _ _ rfl rfl rfl fun h => Heap.get?_push_size _ rfl⟩
/-! ### one draw -/
/-- it may be drawn from -/
def Ready (X : Cx) (Bf : List Mark) (n0 : Nat) (a : Addr) (oa : Obj) (g : Nat) (ds : List PyData) (prot : List Addr) (H : Hp) (s : Shared) : Prop :=
  ∃ gs, s.gens[g]? = some gs ∧ s.heap.get? a = some oa ∧ Goes1 (Mz X.prog X.w) X.A.in1 (EndR X.prog X.w X.stack n0 Bf ds H (s.setGen g .running)) (YldR X.prog X.w X.K X.mg X.base X.A.in1 X.stack n0 a oa g Bf ds prot H (s.setGen g .running)) (.send .none) (s.setGen g .running) gs
/-- what a draw gives -/
def Drawn (X : Cx) (Bf : List Mark) (pins : List (Addr × Obj)) (σ : L2.St) (H : Hp) (n0 : Nat) (a : Addr) (oa : Obj) (g : Nat) (ds : List PyData) (prot : List Addr) (r : Option Value) (s1 : Shared) : Prop :=
  (r = none ∧ ds = [] ∧ MkS Bf s1 ∧ ∃ H1, Chg [] [] H H1 ∧ Inv X pins σ H1 s1) ∨
  ∃ v d ds' x prot' kp' bs' H1 sy gs, r = some v ∧ ds = d :: ds' ∧ RelV x v ∧ Ft H1 d x ∧ Chg [] [] H H1 ∧ (∀ y ∈ prot', (y ∈ prot ∨ H y = none) ∧ H1 y ≠ none) ∧ Inv X pins σ H1 s1 ∧ s1 = sy.setGen g gs ∧ sleeps gs = true ∧ KpOk n0 a oa kp' H1 s1 ∧ MkS (Bf ++ bs') s1 ∧ (∀ b ∈ bs', b.2 ∈ kp') ∧
    Rdy X.prog X.w X.K X.mg X.base X.A.in1 X.stack n0 a g ds' prot' kp' bs' H1 sy gs
theorem draw {X : Cx} {Bf : List Mark} {pins : List (Addr × Obj)} {σ : L2.St} {H : Hp} {s : Shared} {n0 : Nat} {a : Addr} {oa : Obj} {g : Nat} {ds : List PyData} {prot : List Addr} (I : Inv X pins σ H s) (B : Below X pins n0) (hh : X.A.handled = none) (hd : X.A.depth < recursionLimit) (go : IsGO oa g) (R : Ready X Bf n0 a oa g ds prot H s) :
    wpAny (Mz X.prog X.w) X.A (pyNext (.ref a)) (fun r s1 => s.gens.size ≤ s1.gens.size ∧ Drawn X Bf pins σ H n0 a oa g ds prot r s1) NoX s := by
  obtain ⟨gs, hgs, hoa, R⟩ := R
  refine GenW.wpAny_gsz (n := s.gens.size) (Nat.le_refl _) ?_
  refine wpAny_pyNext_gen1 (P := fun s1 => ds = [] ∧ MkS Bf s1 ∧ ∃ H1, Guar X.prog X.w X.stack n0 H (s.setGen g .running) H1 s1) (Y := YldR X.prog X.w X.K X.mg X.base X.A.in1 X.stack n0 a oa g Bf ds prot H (s.setGen g .running)) hh I.nolimit hd (go.gen hoa) hgs R (fun v s1 k' l' c' p' fs' cl' hcl hy => ?_) (fun s1 hp h' hk => ?_)
  · obtain ⟨d, ds', x, prot', kp', bs', H1, e, rx, fx, gu, hp, kk, mk, hb, hyf, hr⟩ := hy
    intro hsz
    have I1 : Inv X pins σ H1 s1 := Inv.drawn I B ⟨gu.os, gu.bare, gu.un, gu.hok, gu.chg⟩
    refine ⟨hsz, .inr ⟨v, d, ds', x, prot', kp', bs', H1, s1, _, rfl, e, rx, fx, gu.chg, hp, Inv.gensOf I1 rfl rfl (allBare_setGen gu.bare (by rw [hcl]; rfl)), rfl, rfl, ⟨kk.at_, kk.ap⟩, mk.set fun k l c p fs cl e y hc hl => ?_, hb, hr l' p' cl'⟩⟩
    cases e
    obtain ⟨oy, h1, h2⟩ := hyf y hc
    exact ⟨oy, List.mem_append_right _ h1, h2⟩
  · obtain ⟨e, mk, H1, gu⟩ := hp
    intro hsz
    have I1 : Inv X pins σ H1 s1 := Inv.drawn I B ⟨gu.os, gu.bare, gu.un, gu.hok, gu.chg⟩
    have I2 : Inv X pins σ H1 (s1.setGen g .finished) := Inv.gensOf I1 rfl rfl (allBare_setGen gu.bare rfl)
    have mk2 : MkS Bf (s1.setGen g .finished) := mk.set fun _ _ _ _ _ _ z => by cases z
    exact ⟨hsz, .inl ⟨rfl, e, mk2.same rfl, H1, gu.chg, I2.kept (h' := h') (t' := s1.toks) hk⟩⟩
end SG
namespace SG
open PySem PyProof.Rows L2
/-! ### a call of a generator def -/
abbrev TGc := L2.St → Hp → (List PyData → List Addr → Hp → Prop) → Prop
structure PGn (X : Cx) (k : Nat) (e : Expr) (tg : TGc) : Prop where
  run : ∀ (B : List Mark) (pins : List (Addr × Obj)) (s : Shared) (σ : L2.St) (H : Hp) (R : List PyData → List Addr → Hp → Prop), MkS B s → Inv X pins σ H s → tg σ H R → wpAny (Mz X.prog X.w) X.A (eval e X.env)
    (fun u s' => MkS B s' ∧ ∃ H1 a g oa kp gs n0 ds prot, u = .ref a ∧ Inv X pins σ H1 s' ∧ Below X pins n0 ∧ s.gens.size ≤ g ∧ Drw X.prog X.w X.K X.mg X.base k X.stack n0 ds prot H1 s' a g oa kp gs ∧ R ds prot H1) NoX s
def tGc (sp : GSp) (ta : TA) : TGc := fun σ H R => ta σ H fun vs H1 => ∃ ds prot, sp vs H1 ds prot ∧ R ds prot H1
theorem pgn_call {X : Cx} {k : Nat} {f : Addr} {fd : FuncData} {ps : List Str} {sp : GSp} {x : Str} {p pos : Pos} {e : Expr} {es : List Expr} {t : TA} (hX : XNo X) (F : GnOk X.prog X.w X.K X.mg X.base k f fd ps sp) (hr : Room k X.A) (hg : Gl X x) (hm : X.mg x = some (.ref f)) (hk : PySem.W.keepIn X.K (.ref f) = true) (hb : Binds X.K fd ps [])
    (ha : PA X (e :: es) t) (hdb : (x == ("__debug__" : Str)) = false := by decide) (he : starEach (e :: es) X.env = (false, eval e X.env) :: starEach es X.env := by rfl) (hpl : (backTo pos (starEach es X.env)).any (·.1) = false := by rfl) :
    PGn X k (.Call (.Name x p) (e :: es) [] pos) (tGc sp t) := by
  refine ⟨fun B pins s σ H R m I h => ?_⟩
  have ld : ∀ {Q0 : Value → Shared → Prop}, Q0 (.ref f) s → wpAny (Mz X.prog X.w) X.A (eval (.Name x p) X.env) Q0 NoX s := fun {Q0} h =>
    Calls.Name_function_global I.ok.kind hg (Calls.loadGlobal_global (by rw [I.ok.glob]; exact I.mod.glob.keeps I.bk) hm h) hdb
  refine wpAny_Call_Name_kw (ld ?_)
  refine PySem.W.callWith_K (h₀ := X.base) I.ok.mod.kin hk ?_ he hpl
  refine wpAny_mono (pa_kz ha hX I h) (fun us s1 q => ?_) fun _ _ q => q
  obtain ⟨k1, vs, H1, I1, r, ds, prot, q1, q2⟩ := q
  refine ⟨I1.kIn, ?_⟩
  have hl : us.length = ps.length := by rw [← r.length]; exact F.len _ _ _ _ q1
  have bd := hb s1 us I1.kIn (by rw [List.append_nil]; exact hl)
  rw [List.append_nil] at bd
  refine wpAny_call (codeAny_mono (F.run B X.A X.stack s1 H1 ⟨us, []⟩ us vs ds prot (k1.2 B m) hr I1.env0 bd r q1) fun r s' hq => ?_)
  cases r with
  | error e => exact hq.elim
  | ok fl =>
    cases fl with
    | ret u =>
      obtain ⟨m', a, g, oa, kp, gs, rfl, os, hb, hk, hg, d⟩ := hq
      have I2 : Inv X pins σ H1 s' := I1.call' (ch := []) os (Un.kept hk) (I1.hok.kept hk) hb fun b z => by simp at z
      exact ⟨m', H1, a, g, oa, kp, gs, s1.heap.objs.size, ds, prot, rfl, I2, Inv.below I1 (Nat.le_refl _), Nat.le_trans k1.1.le hg, d, q2⟩
    | next => exact hq.elim
    | brk => exact hq.elim
    | cont => exact hq.elim
section
variable {X : Cx}
theorem env0_gens {P : Program} {w : World} {K : PySem.W.Frag} {mg : Str → Option Value} {base : Heap} {A A' : Around} {outer : List Env} {s s' : Shared} {H : Hp} (e : Env0 P w K mg base A outer s H) (hA : A'.frames = A.frames) (hh : s'.heap = s.heap) (hb : AllBare s'.gens) : Env0 P w K mg base A' outer s' H :=
  ⟨hA.trans e.frames, e.mod, by rw [hh]; exact e.bs, by rw [hh]; exact e.bsz, by rw [hh]; exact e.funs, e.frf, by rw [hh]; exact e.hok, hb⟩
/-- just made, it is ready -/
theorem ready_new {k : Nat} {pins : List (Addr × Obj)} {σ : L2.St} {n0 : Nat} {ds : List PyData} {prot : List Addr} {H : Hp} {s : Shared} {a : Addr} {g : Nat} {oa : Obj} {kp : List (Addr × Obj)} {gs : GenState} (I : Inv X pins σ H s) (hr : Room k X.A.in1) {Bf : List Mark} (mk : MkS Bf s) (d : Drw X.prog X.w X.K X.mg X.base k X.stack n0 ds prot H s a g oa kp gs) : Ready X Bf n0 a oa g ds prot H s := by
  refine ⟨gs, d.at_, (d.kpa _ (List.mem_cons_self ..)).1, rdy_iff.mp (d.rdy X.A.in1 hr I.ok.frames) Bf oa H (s.setGen g .running) d.go.nocell d.na ⟨rfl, env0_gens I.env0 rfl rfl (allBare_setGen I.bare rfl), d.kpa, ⟨by rw [GenW.setGen_size]; exact Nat.le_refl _, fun i y n e z => ?_⟩, fun _ _ h => h, fun _ _ => rfl, setGen_at (Array.getElem?_eq_some_iff.mp d.at_).1⟩ (by rw [List.append_nil]; exact mk.set fun _ _ _ _ _ _ z => by cases z)⟩
  show (s.gens.setIfInBounds g .running)[i]? = some y
  rw [Array.getElem?_setIfInBounds_ne (Nat.ne_of_lt n)]
  exact e
/-- .. and again, behind what its drawer did -/
theorem ready_next {X' : Cx} {pins : List (Addr × Obj)} {σ : L2.St} {n0 : Nat} {ds : List PyData} {prot : List Addr} {H1 H2 : Hp} {s1 s2 sy : Shared} {a : Addr} {g : Nat} {oa : Obj} {kp : List (Addr × Obj)} {gs : GenState} (hX : X'.prog = X.prog ∧ X'.w = X.w ∧ X'.K = X.K ∧ X'.mg = X.mg ∧ X'.base = X.base ∧ X'.A = X.A ∧ X'.stack = X.stack)
    {Bf bs : List Mark} (hr : Rdy X.prog X.w X.K X.mg X.base X.A.in1 X.stack n0 a g ds prot kp bs H1 sy gs) (go : IsGO oa g) (mk : MkS (Bf ++ bs) s2) (e1 : s1 = sy.setGen g gs) (hs : sleeps gs = true) (hkp : KpOk n0 a oa kp H1 s1)
    (I : Inv X' pins σ H2 s2) (hos : s2.os = s1.os) (hp : ∀ p ∈ (a, oa) :: kp, s2.heap.get? p.1 = some p.2 ∧ H2 p.1 = none) (hg : s2.gens[g]? = some gs) (hk : KeepX g s1.gens s2.gens) (ht : Tups H1 H2) (hpr : ∀ y ∈ prot, H2 y = H1 y) : Ready X' Bf n0 a oa g ds prot H2 s2 := by
  obtain ⟨x1, x2, x3, x4, x5, x6, x7⟩ := hX
  unfold Ready
  rw [x1, x2, x3, x4, x5, x6, x7]
  have e0 : Env0 X.prog X.w X.K X.mg X.base X.A.in1 X.stack (s2.setGen g .running) H2 := by
    have := env0_gens (A' := X'.A.in1) (s' := s2.setGen g .running) I.env0 rfl rfl (allBare_setGen I.bare rfl)
    rw [x1, x2, x3, x4, x5, x6, x7] at this
    exact this
  refine ⟨gs, hg, (hp _ (List.mem_cons_self ..)).1, rdy_iff.mp hr Bf oa H2 (s2.setGen g .running) go.nocell (hkp.at_ _ (List.mem_cons_self ..)).2.2.2 ⟨by rw [e1] at hos; exact hos, e0, hp, ⟨?_, fun i y n e z => ?_⟩, ht, hpr, setGen_at (Array.getElem?_eq_some_iff.mp hg).1⟩ (mk.set fun _ _ _ _ _ _ z => by cases z)⟩
  · have := hk.le
    rw [e1, GenW.setGen_size] at this
    rw [GenW.setGen_size]
    exact this
  · show (s2.gens.setIfInBounds g .running)[i]? = some y
    rw [Array.getElem?_setIfInBounds_ne (Nat.ne_of_lt n)]
    refine hk.slp i y n ?_ z
    rw [e1]
    show (sy.gens.setIfInBounds g gs)[i]? = some y
    rw [Array.getElem?_setIfInBounds_ne (Nat.ne_of_lt n)]
    exact e
theorem setGen_some {s : Shared} {g : Nat} {x : GenState} (h : g < s.gens.size) : (s.setGen g x).gens[g]? = some x := setGen_at h
/-! ### for over a generator, in a plain def -/
/-- the body neither breaks off nor returns -/
def tForG (tg : TGc) (g : TG) (tb : TS) : TS := fun D σ H => tg σ H fun ds prot H1 => ∃ W : List PyData → List Addr → L2.St → Hp → Prop, W ds prot σ H1 ∧ (∀ prot σ H, W [] prot σ H → ∀ H', Chg [] [] H H' → D.nx σ H') ∧
  ∀ d ds prot σ H, W (d :: ds) prot σ H → ∀ x H' prot', Chg [] [] H H' → Ft H' d x → (∀ y ∈ prot', (y ∈ prot ∨ H y = none) ∧ H' y ≠ none) → g x σ H' fun σ2 H2 =>
    tb { D with nx := fun σ3 H3 => Tups H' H3 ∧ (∀ y ∈ prot', H3 y = H' y) ∧ W ds prot' σ3 H3, ct := fun σ3 H3 => Tups H' H3 ∧ (∀ y ∈ prot', H3 y = H' y) ∧ W ds prot' σ3 H3, bk := fun _ _ => False, rt := fun _ _ => False } σ2 H2
theorem kp_pins {pins kp : List (Addr × Obj)} {σ : L2.St} {H : Hp} {s : Shared} {n0 : Nat} {a : Addr} {oa : Obj} (I : Inv X pins σ H s) (B : Below X pins n0) (k : KpOk n0 a oa kp H s) : Inv X (pins ++ ((a, oa) :: kp)) σ H s :=
  I.pins_of fun p hp => (List.mem_append.mp hp).elim (fun z => I.pin p (List.mem_append_right _ z)) fun z => by
    obtain ⟨h1, h2, h3, h4⟩ := k.at_ p z
    refine ⟨h1, h2, fun e => ?_, fun e => ?_, h3⟩
    · have := B.loc
      rw [← e] at this
      exact absurd this (Nat.not_lt.mpr h4)
    · obtain ⟨_, o, ho, _⟩ := I.ok.funs.mem e
      exact absurd (Nat.lt_of_lt_of_le (Heap.lt_size ho) B.s0) (Nat.not_lt.mpr h4)
theorem go_gen {M : Model} {A : Around} {s : Shared} {tg : Expr} {a : Addr} {u : Value} {oa : Obj} {g : Nat} {Q : Unit → Shared → Prop} (h : IsGO oa g) (e : s.heap.get? a = some oa) (hQ : Q () s) : wpAny M A (letOwnedTupleGo tg (.ref a) u) Q NoX s := by
  obtain ⟨c, ⟨nm, qn, d⟩, _⟩ := h
  exact go_of e c d (by decide) hQ
theorem zs_forG {k : Nat} {tg iter : Expr} {body : List Stmt} {wi : TGc} {g : TG} {tb : TS} {pos : Pos} (hx : XNo X) (hc : X.calm = true) (hr : Room (k + 1) X.A) (hi : PGn X k iter wi) (hg : PG X tg g) (hb : PSs X body tb)
    (hs : ∀ x, foldedSetIterable iter X.env x = pure x := by intro _; rfl) : PSz X (.For tg iter body [] pos) (tForG wi g tb) := by
  refine ⟨fun B0 pins s σ H D m I h => ?_⟩
  refine wpAny_For (wpAny_mono (hi.run B0 pins s σ H _ m I h) (fun v s1 q => ?_) fun _ _ q => q) hs
  obtain ⟨m1, H1, a, gn, oa, kp, gs, n0, ds, prot, e, I1, B, hgl, d, W, w0, wn, wc⟩ := q
  subst e
  refine wz_pyIter_gen (d.go.gen (d.kpa _ (List.mem_cons_self ..)).1) ?_
  have R0 := ready_new I1 hr.in1 m1 d
  refine cz_forLoop (fun n s' => ∃ ds prot σ' H', n = ds.length ∧ Inv X pins σ' H' s' ∧ Ready X B0 n0 a oa gn ds prot H' s' ∧ W ds prot σ' H') ?_ ds.length ⟨ds, prot, σ, H1, rfl, I1, R0, w0⟩
  rintro n s3 ⟨ds, prot, σ3, H3, rfl, I3, R3, w3⟩
  have hgz : gn < s3.gens.size := by
    obtain ⟨gs3, e3, _⟩ := R3
    exact (Array.getElem?_eq_some_iff.mp e3).1
  refine wpAny_mono (draw I3 B (I3.ok.hd hc) hr.depth d.go R3) (fun r s4 h4 => ?_) fun _ _ q => q.elim
  obtain ⟨hz4, h4⟩ := h4
  rcases h4 with ⟨rfl, rfl, m4, H4, c4, I4⟩ | ⟨v, dd, ds', x, prot', kp', bs', H4, sy, gs4, rfl, rfl, rx, fx, c4, hpr, I4, e4, hsl, hk4, m4, hb4, hr4⟩
  · exact ⟨m4, σ3, H4, I4, wn prot σ3 H3 w3 H4 c4⟩
  · have g4 : s4.gens[gn]? = some gs4 := by
      rw [e4]
      refine setGen_some ?_
      have := Nat.lt_of_lt_of_le hgz hz4
      rw [e4, GenW.setGen_size] at this
      exact this
    refine wpAny_mono (go_gen d.go (hk4.at_ _ (List.mem_cons_self ..)).1 ?_) (fun _ _ q => q) fun _ _ q => q.elim
    have I5 := kp_pins I4 B hk4
    refine wpAny_mono (pg_kz hg hx I5 rx (wc dd ds' prot σ3 H3 w3 x H4 prot' c4 fx hpr)) (fun _ s6 ⟨k6, σ6, H6, I6, q6⟩ => ?_) fun _ _ q => q
    refine wpAny_mono (pss_kz hb hx I6 q6) (fun f s7 ⟨k7, q7⟩ => ?_) fun _ _ q => q
    have k47 := k6.trans k7
    have again : ∀ {σ7 : L2.St} {H7 : Hp}, Inv X (pins ++ ((a, oa) :: kp')) σ7 H7 s7 → (Tups H4 H7 ∧ (∀ y ∈ prot', H7 y = H4 y) ∧ W ds' prot' σ7 H7) → ∃ m, m < (dd :: ds').length ∧ ∃ ds prot σ' H', m = ds.length ∧ Inv X pins σ' H' s7 ∧ Ready X B0 n0 a oa gn ds prot H' s7 ∧ W ds prot σ' H' := fun {σ7 H7} I7 ⟨n1, n2, n3⟩ => by
      refine ⟨ds'.length, Nat.lt_succ_self _, ds', prot', σ7, H7, rfl, I7.unpinned, ?_, n3⟩
      have pin7 : ∀ p ∈ (a, oa) :: kp', s7.heap.get? p.1 = some p.2 ∧ H7 p.1 = none := fun p hp => by
        have z := I7.pin p (List.mem_append_right _ (List.mem_append_right _ hp))
        exact ⟨z.1, z.2.1⟩
      exact ready_next ⟨rfl, rfl, rfl, rfl, rfl, rfl, rfl⟩ hr4 d.go (k47.2 _ m4) e4 hsl hk4 I7 (I7.os.trans I4.os.symm) pin7 (k47.1.slp gn gs4 g4 hsl) (k47.1.x gn) n1 n2
    cases f with
    | next => obtain ⟨σ7, H7, I7, n7⟩ := q7; exact again I7 n7
    | cont => obtain ⟨σ7, H7, I7, n7⟩ := q7; exact again I7 n7
    | brk => obtain ⟨σ7, H7, I7, q7⟩ := q7; exact q7.elim
    | ret v => obtain ⟨x7, σ7, H7, I7, r7, q7⟩ := q7; exact q7.elim
end
end SG
namespace SG
open PySem PyProof.Rows L2
/-! ### list(g) -/
/-- T(..) of a built-in type -/
theorem wz_callType {P : Program} {w : World} {A : Around} {s : Shared} {E : Value → Shared → Prop} {T nId iId : String} {Bi : Builtin} {args : List Value} {Q Q₁ : Value → Shared → Prop} (hn : nId ≠ "proto.yield_from") (hi : iId ≠ "proto.yield_from") (ft : TypeCalled T nId iId)
    (hct : checkTypeCall T ⟨args, []⟩ = pure ()) (eI : entryFor table iId = some Bi)
    (hnew : codeAny (Mz P w) A.in1 (.call (.builtin nId) ⟨.type T :: args, []⟩) (wants Q₁ E) s)
    (next : ∀ o u, Q₁ o u → u.TypeIs o T ∧ argsOk iId ⟨o :: args, []⟩ ∧ wpAny (Mz P w) A.in1.in1 (Bi ⟨o :: args, []⟩) (FinZ (Mz P w) A.in1 (wants (fun r u2 => r = .none ∧ Q o u2) E)) (ErrZ (wants (fun r u2 => r = .none ∧ Q o u2) E)) u) :
    wpAny (Mz P w) A (call (.type T) args) Q E s := by
  obtain ⟨mc, mt, mm⟩ := ft.mro
  have m2 := ft.made
  have m3 := ft.sub
  refine wpAny_call (codeAny_of_tree ?_)
  show wpAny (Mz P w) _ (callAny (.type T) _) _ _ _
  refine wpAny_pure ⟨Code.quiet_builtin _ (by decide +kernel), ?_⟩
  refine cz_builtin (by decide) F.entry_type_call ?_
  rw [Around.under_plain (weight_type_call_type T args []) rfl]
  have m4 := ft.notType
  have m5 := ft.canCreate
  repeat (any_goals (first | assumption | wp_step))
  refine codeAny_mono hnew fun r u hr => ?_
  cases r with
  | error x => exact hr
  | ok fl =>
    cases fl with
    | ret o =>
      obtain ⟨hT, hok, hsi⟩ := next _ _ hr
      have m6 := ft.init.lookup
      have m7 := ft.init.bind o
      repeat (any_goals (first | assumption | wp_step))
      refine codeAny_mono (cz_call_builtin ft.init.plain hi eI (ft.init.check _ _ _ _ _ _ _ _ hT hok hsi)) fun r2 u2 hr2 => ?_
      cases r2 with
      | error x => exact hr2
      | ok fl2 =>
        cases fl2 with
        | ret r =>
          obtain ⟨rfl, hq⟩ := hr2
          repeat (any_goals (first | assumption | wp_step))
        | _ => exact hr2.elim
    | _ => exact hr.elim
theorem codeAny_zx {P : Program} {w : World} {A : Around} {c : Code} {s : Shared} {r0 : Result} {h' : Heap} (h : codeAny (model P w) A c (fun r u => r = r0 ∧ u = { outS s with heap := h' }) (outS s)) : codeAny (Mz P w) A c (fun r u => r = r0 ∧ u = { s with heap := h' }) s := fun Γ p hc hΓ => by
  obtain ⟨r, s', hr, e1, e2⟩ := h Γ p hc hΓ
  subst e1 e2
  have h1 := runs_z (e := .ret r) hr rfl
  rw [trS_out] at h1
  have e3 : trS { outS s with heap := h' } = { outS s with heap := h' } := by
    have := trS_out s
    unfold trS at this ⊢
    have hg : (outS s).gens.map trG = (outS s).gens := congrArg Shared.gens this
    show { outS s with heap := h', gens := (outS s).gens.map trG } = _
    rw [hg]
  rw [e3] at h1
  obtain ⟨a, _, h2⟩ := runs_mix (G := s.gens) h1 rfl (put_out s)
  rw [mix_out] at h2
  have e4 : mixS s.gens { outS s with heap := h' } = { s with heap := h' } := by
    have hm : mix s.gens (outS s).gens = s.gens := congrArg Shared.gens (mix_out s)
    show { outS s with heap := h', gens := mix s.gens (outS s).gens } = _
    rw [hm]
    rfl
  rw [e4] at h2
  exact ⟨r, _, h2, rfl, rfl⟩
theorem cz_list_new {P : Program} {w : World} {A : Around} {s : Shared} {E : Value → Shared → Prop} (a : Value) {Q₁ : Value → Shared → Prop} (h : Q₁ (.ref s.heap.objs.size) { s with heap := s.heap.push { cls := .type "list", data := .seq #[] } }) :
    codeAny (Mz P w) A (.call (.builtin "list.__new__") ⟨[.type "list", a], []⟩) (wants Q₁ E) s := by
  refine codeAny_mono (codeAny_zx (r0 := .ok (.ret (.ref s.heap.objs.size))) (h' := s.heap.push { cls := .type "list", data := .seq #[] })
    (codeAny_mono (code_list_new (s := outS s) (E := fun _ _ => False) a (Q₁ := fun o u => o = .ref s.heap.objs.size ∧ u = { outS s with heap := s.heap.push { cls := .type "list", data := .seq #[] } }) ⟨rfl, rfl⟩) fun r u q => ?_)) fun r u q => ?_
  · cases r with
    | error x => exact q.elim
    | ok fl => cases fl with
      | ret o => obtain ⟨rfl, e⟩ := q; exact ⟨rfl, e⟩
      | next => exact q.elim
      | brk => exact q.elim
      | cont => exact q.elim
  · obtain ⟨rfl, rfl⟩ := q
    exact h
section
variable {X : Cx}
/-- the same context a few frames of the machine deeper -/
def Cx.in1 (X : Cx) : Cx := { X with A := X.A.in1 }
theorem Inv.in1 {pins : List (Addr × Obj)} {σ : L2.St} {H : Hp} {s : Shared} (I : Inv X pins σ H s) : Inv (Cx.in1 X) pins σ H s :=
  ⟨⟨I.ok.mod, I.ok.kind, I.ok.glob, I.ok.blt, I.ok.above, I.ok.inj, I.ok.has, I.ok.cab, I.ok.hd, I.ok.frames, I.ok.stk, I.ok.exf, I.ok.bs, I.ok.bsz, I.ok.noex, I.ok.exfs, I.ok.funs, I.ok.frf⟩, I.os, I.bare, I.base, I.loc, I.cell, I.free, I.freeC, I.pin, I.hok, I.len⟩
theorem Inv.un1 {pins : List (Addr × Obj)} {σ : L2.St} {H : Hp} {s : Shared} (I : Inv (Cx.in1 X) pins σ H s) : Inv X pins σ H s :=
  ⟨⟨I.ok.mod, I.ok.kind, I.ok.glob, I.ok.blt, I.ok.above, I.ok.inj, I.ok.has, I.ok.cab, I.ok.hd, I.ok.frames, I.ok.stk, I.ok.exf, I.ok.bs, I.ok.bsz, I.ok.noex, I.ok.exfs, I.ok.funs, I.ok.frf⟩, I.os, I.bare, I.base, I.loc, I.cell, I.free, I.freeC, I.pin, I.hok, I.len⟩
theorem below_in1 {pins : List (Addr × Obj)} {n0 : Nat} (B : Below X pins n0) : Below (Cx.in1 X) pins n0 := ⟨B.s0, B.loc, B.cell, B.pin, B.tups, B.frzs, B.tbls⟩
theorem chg_push {S : Addr} {H0 H : Hp} {xs ys : List V} (c : Chg [] [] H0 H) (n : H0 S = none) (h : H S = some (.lst xs)) : Chg [] [] H0 (upd H S (.lst ys)) := by
  refine ⟨fun b u e _ => ?_, fun b xs e => ?_, fun b e => ?_, fun _ h => .inl h⟩
  · rw [upd_ne (ne_of_none e n)]; exact c.keep b u e (by simp)
  · rw [upd_ne (ne_of_none e n)]; exact c.tups b xs e
  · by_cases zb : b = S
    · rw [zb]; exact n
    · rw [upd_ne zb] at e; exact c.dom b e
theorem drain {Bf : List Mark} {pins : List (Addr × Obj)} {σ : L2.St} {H0 : Hp} {n0 : Nat} {a S : Addr} {oa : Obj} {g : Nat} {A : Around} {R : Result → Shared → Prop} {res : Value} (B : Below X pins n0) (hA : A.under (.builtin "list.extend.loop" ⟨[.ref S, .ref a, res], []⟩) = X.A) (hh : X.A.handled = none) (hd : X.A.depth < recursionLimit) (go : IsGO oa g) (nS : H0 S = none) :
    ∀ (ds pre : List PyData) (prot : List Addr) (ys : List V) (H : Hp) (s : Shared), pre.length + ds.length ≤ sizeLine → Inv X pins σ H s → Ready X Bf n0 a oa g ds prot H s → H S = some (.lst ys) → FtAll H pre ys → (∀ y ∈ prot, y ≠ S) → Chg [] [] H0 H →
      (∀ H' ys s', MkS Bf s' → Inv X pins σ H' s' → Chg [] [] H0 H' → H' S = some (.lst ys) → FtAll H' (pre ++ ds) ys → R (.ok (.ret res)) s') →
      codeAny (Mz X.prog X.w) A (.builtin "list.extend.loop" ⟨[.ref S, .ref a, res], []⟩) R s := by
  intro ds
  induction ds with
  | nil =>
    intro pre prot ys H s hz I R0 hS hy hpr c0 fin
    refine cz_builtin (by decide) F.entry_extend_loop ?_
    rw [hA]
    show wpAny (Mz X.prog X.w) X.A (pyNext (.ref a) >>= _) _ _ s
    refine wpAny_bind (wpAny_mono (draw I B hh hd go R0) (fun r s4 h4 => ?_) fun _ _ q => q.elim)
    obtain ⟨hz4, h4⟩ := h4
    rcases h4 with ⟨rfl, _, m4, H4, c4, I4⟩ | ⟨v, dd, ds', x, prot', kp', bs', H4, sy, gs4, rfl, e, _⟩
    · rw [List.append_nil] at fin
      exact wpAny_pure (fin H4 ys s4 m4 I4 (c0.trans c4) (c4.all _ _ hS) (hy.mono c4.tups))
    · cases e
  | cons d ds ih =>
    intro pre prot ys H s hz I R0 hS hy hpr c0 fin
    rw [List.length_cons] at hz
    have hgz : g < s.gens.size := by
      obtain ⟨gs3, e3, _⟩ := R0
      exact (Array.getElem?_eq_some_iff.mp e3).1
    refine cz_builtin (by decide) F.entry_extend_loop ?_
    rw [hA]
    show wpAny (Mz X.prog X.w) X.A (pyNext (.ref a) >>= _) _ _ s
    refine wpAny_bind (wpAny_mono (draw I B hh hd go R0) (fun r s4 h4 => ?_) fun _ _ q => q.elim)
    obtain ⟨hz4, h4⟩ := h4
    rcases h4 with ⟨rfl, e, _⟩ | ⟨v, dd, ds', x, prot', kp', bs', H4, sy, gs4, rfl, e, rx, fx, c4, hp4, I4, e4, hsl, hk4, m4, hb4, hr4⟩
    · cases e
    · cases e
      have hS4 := c4.all _ _ hS
      have ly := hy.len
      obtain ⟨z, its, n, r, hl, eS⟩ := I4.lstM hS4
      have lits := r.length
      have g4 : s4.gens[g]? = some gs4 := by
        rw [e4]
        refine setGen_some ?_
        have := Nat.lt_of_lt_of_le hgz hz4
        rw [e4, GenW.setGen_size] at this
        exact this
      show wpAny (Mz X.prog X.w) X.A (updateSeq S (·.push v) >>= _) _ _ _
      refine wpAny_bind (wpAny_updateSeq eS rfl (wpAny_pure ⟨plainId_quiet F.plain_extend_loop _, ?_⟩) (by rw [List.size_toArray]; omega) (by rw [Array.size_push, List.size_toArray]; omega))
      have I5 := I4.lset (f := fun z => z.push v) (t' := s4.toks) (its' := its ++ [v]) hS4 eS (by simp) (r.append (.cons rx .nil)) (by rw [List.length_append, List.length_singleton]; omega)
      have tu : Tups H4 (upd H4 S (.lst (ys ++ [x]))) := fun b zs e => by
        rw [upd_ne fun zb => ?_]
        · exact e
        · rw [zb, hS4] at e; cases e
      have pS : ∀ y ∈ prot', y ≠ S := fun y hy => (hp4 y hy).1.elim (hpr y) fun e z => by rw [z, hS] at e; cases e
      refine ih (pre ++ [d]) prot' (ys ++ [x]) (upd H4 S (.lst (ys ++ [x]))) _ (by rw [List.length_append, List.length_singleton]; omega) I5 ?_ upd_same ((hy.mono fun b zs e => tu b zs (c4.tups b zs e)).app (.cons (fx.mono tu) .nil)) pS (chg_push (c0.trans c4) nS hS4) (by rw [List.append_assoc]; exact fin)
      refine ready_next (X := X) (Bf := Bf) ⟨rfl, rfl, rfl, rfl, rfl, rfl, rfl⟩ hr4 go (m4.same rfl) e4 hsl hk4 I5 rfl (fun p hp => ?_) g4 (KeepX.refl _ _) tu fun y hy => upd_ne (pS y hy)
      obtain ⟨k1, k2, k3, k4'⟩ := hk4.at_ p hp
      have nS' : p.1 ≠ S := fun z => by rw [z, hS4] at k2; cases k2
      exact ⟨(Heap.get?_update_other _ _ (Ne.symm nS')).trans k1, by rw [upd_ne nS']; exact k2⟩
/-- made ahead of the list that it fills -/
theorem ready_lst {Bf : List Mark} {k : Nat} {pins : List (Addr × Obj)} {σ : L2.St} {n0 : Nat} {ds : List PyData} {prot : List Addr} {H H2 : Hp} {s s2 : Shared} {a : Addr} {g : Nat} {oa : Obj} {kp : List (Addr × Obj)} {gs : GenState} {A : Around} {out : List Env} (hA : X.A.in1.frames = some X.stack) (hr : Room k X.A.in1)
    (d : Drw X.prog X.w X.K X.mg X.base k X.stack n0 ds prot H s a g oa kp gs) (I : Inv X pins σ H2 s2) (hg : s2.gens = s.gens) (ho : s2.os = s.os) (hk : ∀ p ∈ (a, oa) :: kp, s2.heap.get? p.1 = some p.2 ∧ H2 p.1 = none) (ht : Tups H H2) (hp : ∀ y ∈ prot, H2 y = H y) (mk : MkS Bf s2) : Ready X Bf n0 a oa g ds prot H2 s2 := by
  refine ⟨gs, by rw [hg]; exact d.at_, (hk _ (List.mem_cons_self ..)).1, rdy_iff.mp (d.rdy X.A.in1 hr hA) Bf oa H2 (s2.setGen g .running) d.go.nocell d.na ⟨ho, env0_gens I.env0 rfl rfl (allBare_setGen I.bare rfl), hk, ⟨by rw [GenW.setGen_size, hg]; exact Nat.le_refl _, fun i y n e z => ?_⟩, ht, hp, setGen_at (by rw [hg]; exact (Array.getElem?_eq_some_iff.mp d.at_).1)⟩ (by rw [List.append_nil]; exact mk.set fun _ _ _ _ _ _ z => by cases z)⟩
  show (s2.gens.setIfInBounds g .running)[i]? = some y
  rw [Array.getElem?_setIfInBounds_ne (Nat.ne_of_lt n), hg]
  exact e
def tListGn (tg : TGc) : TE := fun σ H Q => tg σ H fun ds prot H1 => (∀ y ∈ prot, H1 y ≠ none) ∧ ds.length ≤ sizeLine ∧ ∀ H2 p ys, H1 p = none → Chg [] [] H1 H2 → H2 p = some (.lst ys) → FtAll H2 ds ys → Q (.ref p) H2
/-- list(g) -/
theorem ze_listGn {k : Nat} {e : Expr} {tg : TGc} {nm : Str} {p pos : Pos} (h : PGn X k e tg) (hc : X.calm = true) (hr : Room (k + 4) X.A) (hg : Gl X nm) (hmg : X.mg nm = none) (hv : bootBuiltins nm = some (.type "list")) (hnm : nm ≠ "__name__" := by decide) (hdb : (nm == ("__debug__" : Str)) = false := by decide)
    (he : starEach [e] X.env = (false, eval e X.env) :: starEach [] X.env := by rfl) : PEz X (.Call (.Name nm p) [e] [] pos) (tListGn tg) := by
  refine ⟨fun B0 pins s σ H Q m I hq => ?_⟩
  have ld : ∀ {Q0 : Value → Shared → Prop}, Q0 (.type "list") s → wpAny (Mz X.prog X.w) X.A (eval (.Name nm p) X.env) Q0 NoX s := fun {Q0} h => by
    obtain ⟨mb, h1, h2⟩ := I.mod.blt
    exact Calls.Name_function_global I.ok.kind hg (Calls.loadGlobal_builtin (by rw [I.ok.glob]; exact I.mod.glob.keeps I.bk) hmg (by rw [I.ok.blt]; exact h1.keeps I.bk) ((h2 nm hnm).trans hv) h) hdb
  refine wpAny_Call_Name_kw (ld ?_)
  refine PyProof.Rows.callWith_type1 ?_ he rfl
  rw [he]
  show wpAny (Mz X.prog X.w) _ (spliced ((false, eval e X.env) :: backTo pos (starEach [] X.env))) _ _ s
  refine Calls.spliced_cons (wpAny_mono (h.run B0 pins s σ H _ m I hq) (fun u s1 ⟨m1, H1, a, g, oa, kp, gs, n0, ds, prot, e1, I1, B, _, d, hpr, hsz, q⟩ => ?_) fun _ _ q => q)
  subst e1
  refine Calls.spliced_nil ?_
  have hSn : H1 s1.heap.objs.size = none := I1.hok.fresh (Nat.le_refl _)
  have hga := (d.kpa _ (List.mem_cons_self ..)).1
  have hSa : s1.heap.objs.size ≠ a := Nat.ne_of_gt (Heap.lt_size hga)
  refine wz_callType (Q₁ := fun obj s₁ => obj = .ref s1.heap.objs.size ∧ s₁ = { s1 with heap := s1.heap.push { cls := .type "list", data := .seq #[] } }) (by decide) (by decide) F.called_list (F.typeCall_list_1 _) F.entry_list_init
    (cz_list_new _ ⟨rfl, rfl⟩) fun obj s₁ h₁ => ?_
  obtain ⟨rfl, rfl⟩ := h₁
  have hS : (s1.heap.push { cls := .type "list", data := .seq #[] }).get? s1.heap.objs.size = some { cls := .type "list", data := .seq #[] } := Heap.get?_push_size _ rfl
  refine ⟨⟨_, hS, rfl⟩, F.args_list_init_2 _ _, ?_⟩
  show wpAny (Mz X.prog X.w) X.A.in1.in1 (do let old ← Builtin.List.listItems (.ref s1.heap.objs.size); Builtin.List.listUpdate (.ref s1.heap.objs.size) (fun _ => #[]); letGo old.toList.reverse; Builtin.List.listExtendWith (.ref s1.heap.objs.size) (.ref a) .none) _ _ _
  refine wpAny_bind ?_
  unfold Builtin.List.listItems
  refine wpAny_bind (wpAny_seqItems hS rfl (wpAny_pure ?_))
  show wpAny (Mz X.prog X.w) X.A.in1.in1 (updateSeq s1.heap.objs.size (fun _ => #[]) >>= fun _ => letGo (#[] : Array Value).toList.reverse >>= fun _ => Builtin.List.listExtendWith (.ref s1.heap.objs.size) (.ref a) .none) _ _ _
  refine wpAny_bind (wpAny_updateSeq hS rfl ?_)
  have hS2 := Heap.get?_update_self (Obj.mapSeq (fun _ => (#[] : Array Value))) hS rfl
  refine wpAny_bind (wpAny_letGo ?_)
  unfold Builtin.List.listExtendWith
  have up : ∀ (h : Heap) (f : Obj → Obj), (∀ b o, s1.heap.get? b = some o → h.get? b = some o) → ∀ b o, s1.heap.get? b = some o → (h.update s1.heap.objs.size f).get? b = some o := fun h f q b o e =>
    (Heap.get?_update_other _ _ (Ne.symm (Nat.ne_of_lt (Heap.lt_size e)))).trans (q b o e)
  have k1 : ∀ b o, s1.heap.get? b = some o → (s1.heap.push { cls := .type "list", data := .seq #[] }).get? b = some o := fun b o e => Heap.get?_push_of_some _ e
  have k2 := up _ (Obj.mapSeq (fun _ => (#[] : Array Value))) k1
  have gty : ∀ {h : Heap}, (∀ b o, s1.heap.get? b = some o → h.get? b = some o) → h.IsGen a g := fun {h} q => (d.go.gen hga).keeps q
  refine wpAny_bind (wpAny_typeOf (Heap.IsGen.typeIs (s := { s1 with heap := _ }) (gty k2)) ?_)
  have h1 : Builtin.List.listSameRef (.ref s1.heap.objs.size) (.ref a) = false := by simp [Builtin.List.listSameRef, hSa]
  have h2 : (Value.type "generator" == Value.type "list") = false := by decide
  have h3 : (Value.type "generator" == Value.type "tuple") = false := by decide
  simp only [h1, h2, h3, Bool.or_false, Bool.false_eq_true, if_false]
  refine wpAny_bind (wz_pyIter_gen (s := { s1 with heap := _ }) (gty k2) ?_)
  refine wpAny_bind (wpAny_holding ?_)
  unfold Builtin.List.listLengthHint
  refine wpAny_bind (wpAny_specialOf (Heap.IsGen.typeIs (s := { s1 with heap := _ }) (gty k2)) F.gen_no_len ?_)
  show wpAny (Mz X.prog X.w) X.A.in1.in1 (specialOf (Value.ref a) (Str.ofString "__length_hint__") >>= _) _ _ _
  refine wpAny_bind (wpAny_specialOf (Heap.IsGen.typeIs (s := { s1 with heap := _ }) (gty k2)) F.gen_no_hint ?_)
  refine wpAny_pure ?_
  show wpAny (Mz X.prog X.w) X.A.in1.in1 (rule "list.extend.makes-room" >>= fun _ => Builtin.List.listTouch (.ref s1.heap.objs.size) >>= fun _ =>
    again (.builtin "list.extend.loop" ⟨[.ref s1.heap.objs.size, .ref a, .none], []⟩)) _ _ _
  refine wpAny_bind (wpAny_rule ?_)
  refine wpAny_bind ?_
  show wpAny (Mz X.prog X.w) X.A.in1.in1 (updateSeq s1.heap.objs.size (·.push .none) >>= fun _ => updateSeq s1.heap.objs.size (·.pop)) _ _ _
  refine wpAny_bind (wpAny_updateSeq hS2 rfl ?_)
  have hS3 := Heap.get?_update_self (Obj.mapSeq (·.push Value.none)) hS2 rfl
  refine wpAny_updateSeq (hz := by seq_fits) hS3 rfl ?_
  have hS4 := Heap.get?_update_self (Obj.mapSeq (·.pop)) hS3 rfl
  have k4 := up _ (Obj.mapSeq (·.pop)) (up _ (Obj.mapSeq (·.push Value.none)) k2)
  refine wpAny_pure ⟨plainId_quiet F.plain_extend_loop _, ?_⟩
  have I4 := I1.laid (a := s1.heap.objs.size) (o := .lst []) (t' := s1.toks) k4 (Nat.le_refl _) ⟨Nat.zero_le _, [], _, .nil, hS4⟩
  have nS : ∀ b o, s1.heap.get? b = some o → b ≠ s1.heap.objs.size := fun b o e => Nat.ne_of_lt (Heap.lt_size e)
  have R4 : Ready (Cx.in1 (Cx.in1 X)) B0 n0 a oa g ds prot (upd H1 s1.heap.objs.size (.lst [])) _ := ready_lst (X := Cx.in1 (Cx.in1 X)) (k := k) (A := X.A) (out := X.stack) I1.ok.frames ((hr.mono (by omega : k + 3 ≤ k + 4)).in1.in1.in1) d (Inv.in1 (Inv.in1 I4)) rfl rfl
    (fun p hp => ⟨k4 _ _ (d.kpa p hp).1, by rw [upd_ne (nS _ _ (d.kpa p hp).1)]; exact (d.kpa p hp).2⟩) (fun b xs e => by rw [upd_ne (ne_of_none e hSn)]; exact e) (fun y hy => upd_ne fun z => hpr y hy (by rw [z]; exact hSn)) (m1.same rfl)
  have hdp : X.A.depth < recursionLimit := hr.depth
  refine drain (X := Cx.in1 (Cx.in1 X)) (A := X.A.in1) (H0 := H1) (below_in1 (below_in1 B)) (Around.under_plainId F.plain_extend_loop _) hr.hd hdp d.go hSn ds [] prot [] _ _ (by simpa using hsz) (Inv.in1 (Inv.in1 I4)) R4 upd_same .nil (fun y hy z => hpr y hy (by rw [z]; exact hSn)) (Chg.mk0 hSn _) fun H' ys s' m' I' c' hS' hy' => ?_
  exact ⟨rfl, m', .ref s1.heap.objs.size, H', Inv.un1 (Inv.un1 I'), rfl, q H' s1.heap.objs.size ys hSn c' hS' hy'⟩
end
end SG
namespace SG
open PySem PyProof.Rows L2
open Sem (wp)
/-! ### a tree whose marks are taken off -/
theorem runs_ug {α : Type} {M : Model} {Γ : Ctx} {fs : List Frame} {Φ : End → Shared → Prop} (y : Addr) (K : α → Sem PySem.Fin) (H : Value → Sem PySem.Fin) (gd : Bool → Bool) (lv : List Value → List Value) (m : Sem α) :
    ∀ (Q : α → Pos → Shared → Prop) (E : Value → Pos → Shared → Prop) (p : Pos) (s : Shared), wp M (Γ.over fs) m Q E p s → (∀ a p' u, Q a p' u → ∃ e v, Runs M Γ p' (ug y (K a)) fs u e v ∧ Φ e v) →
      (∀ x p' u, E x p' u → ∃ e v, Runs M Γ p' (ug y (H x)) fs u e v ∧ Φ e v) → ∃ e v, Runs M Γ p (ug y (m.wrap K H gd lv)) fs s e v ∧ Φ e v := by
  induction m with
  | pure a => exact fun Q E p s h f1 _ => f1 a p s h
  | raise x => exact fun Q E p s h _ f2 => f2 x p s h
  | unsupported _ => exact fun Q E p s h => h.elim
  | finish _ => exact fun Q E p s h => h.elim
  | register _ _ => exact fun Q E p s h => h.elim
  | yield _ _ _ _ => exact fun Q E p s h => h.elim
  | fork _ _ => exact fun Q E p s h => h.elim
  | await _ _ _ _ _ => exact fun Q E p s h => h.elim
  | rule tag k ih => exact fun Q E p s h f1 f2 => let ⟨e, v, r, q⟩ := ih () Q E _ _ h f1 f2; ⟨e, v, Runs.head' (fun _ _ z => .rule z) r, q⟩
  | «at» p' k ih => exact fun Q E p s h f1 f2 => let ⟨e, v, r, q⟩ := ih () Q E _ _ h f1 f2; ⟨e, v, Runs.head' (fun _ _ z => .at z) r, q⟩
  | load a part k ih => exact fun Q E p s ⟨o, ho, h⟩ f1 f2 => let ⟨e, v, r, q⟩ := ih o Q E _ _ h f1 f2; ⟨e, v, Runs.head' (fun _ _ z => .load ho z) r, q⟩
  | update a part f k ih => exact fun Q E p s ⟨ha, h⟩ f1 f2 => let ⟨e, v, r, q⟩ := ih () Q E _ _ h f1 f2; ⟨e, v, Runs.head' (fun _ _ z => .update ha z) r, q⟩
  | alloc o k ih => exact fun Q E p s h f1 f2 => let ⟨e, v, r, q⟩ := ih _ Q E _ _ h f1 f2; ⟨e, v, Runs.head' (fun _ _ z => .alloc z) r, q⟩
  | loadIfAlive a k ih => exact fun Q E p s h f1 f2 => let ⟨e, v, r, q⟩ := ih _ Q E _ _ h f1 f2; ⟨e, v, Runs.head' (fun _ _ z => .loadIfAlive z) r, q⟩
  | point l k ih => exact fun Q E p s h f1 f2 => let ⟨e, v, r, q⟩ := ih () Q E _ _ h f1 f2; ⟨e, v, Runs.head' (fun _ _ z => .point z) r, q⟩
  | fresh k ih => exact fun Q E p s h f1 f2 => let ⟨e, v, r, q⟩ := ih _ Q E _ _ h f1 f2; ⟨e, v, Runs.head' (fun _ _ z => .fresh z) r, q⟩
  | ask k ih => exact fun Q E p s h f1 f2 => let ⟨e, v, r, q⟩ := ih _ Q E _ _ h f1 f2; ⟨e, v, Runs.head' (fun _ _ z => .ask z) r, q⟩
  | choose src n k ih => exact fun Q E p s ⟨hn, h⟩ f1 f2 => let ⟨e, v, r, q⟩ := ih _ Q E _ _ h f1 f2; ⟨e, v, Runs.head' (fun _ _ z => .choose hn z) r, q⟩
  | os a l k ih => exact fun Q E p s h f1 f2 => let ⟨e, v, r, q⟩ := ih _ Q E _ _ h f1 f2; ⟨e, v, Runs.head' (fun _ _ z => .os z) r, q⟩
  | call c hd g l k ih => exact fun Q E p s ⟨x, u, hx, h⟩ f1 f2 => let ⟨e, v, r, q⟩ := ih x Q E _ _ h f1 f2; ⟨e, v, Runs.head' (fun _ _ z => .call hx z) r, q⟩
  | handled own k ih => exact fun Q E p s h f1 f2 => let ⟨e, v, r, q⟩ := ih _ Q E _ _ h f1 f2; ⟨e, v, Runs.head' (fun _ _ z => .handled z) r, q⟩
  | newGen c k ih => exact fun Q E p s h f1 f2 => let ⟨e, v, r, q⟩ := ih _ Q E _ _ h f1 f2; ⟨e, v, Runs.head' (fun _ _ z => .newGen z) r, q⟩
  | genState g k ih => exact fun Q E p s ⟨st, hs, h⟩ f1 f2 => let ⟨e, v, r, q⟩ := ih _ Q E _ _ h f1 f2; ⟨e, v, Runs.head' (fun _ _ z => .genState hs z) r, q⟩
  | resume g r l k ih => exact fun Q E p s ⟨x, u, hw, h⟩ f1 f2 => let ⟨e, v, r, q⟩ := ih x Q E _ _ h f1 f2; ⟨e, v, Runs.head' (fun _ _ z => (Sem.runs_resume_iff M _).mpr ⟨x, u, hw, z⟩) r, q⟩
  | stack k ih => exact fun Q E p s h f1 f2 => let ⟨e, v, r, q⟩ := ih _ Q E _ _ h f1 f2; ⟨e, v, Runs.head' (fun _ _ z => .stack z) r, q⟩
  | thread k ih => exact fun Q E p s h f1 f2 => let ⟨e, v, r, q⟩ := ih _ Q E _ _ h f1 f2; ⟨e, v, Runs.head' (fun _ _ z => .thread z) r, q⟩
section
variable {M : Model} {A : Around} {R : Ret1} {Y : Yld1} {c : Code} {fs : List Frame} {s : Shared} {α β : Type} {y : Addr}
theorem r1u_bind {m : Sem α} {K : α → Sem PySem.Fin} (h : wpAny M (A.over c fs) m (fun a s' => R1 M A R Y c (ug y (K a)) fs s') NoX s) : R1 M A R Y c (ug y (m >>= K)) fs s := by
  rintro Γ p rfl hΓ
  rw [Sem.bind_eq_wrap']
  exact runs_ug y K .raise id id m (fun a _ s' => R1 M A R Y Γ.code (ug y (K a)) fs s') (fun e _ s' => NoX e s') p s (h (Γ.over fs) p (hΓ.over fs)) (fun a p' s' h' => h' Γ p' rfl hΓ) (fun x p' s' h' => h'.elim)
theorem r1_load {a : Addr} {part : Option Value} {k : Obj → Sem PySem.Fin} {o : Obj} (ho : s.heap.get? a = some o) (h : R1 M A R Y c (k o) fs s) : R1 M A R Y c (.load a part k) fs s := by
  rintro Γ p rfl hΓ
  obtain ⟨e, v, r, q⟩ := h Γ p rfl hΓ
  exact ⟨e, v, Runs.head' (fun _ _ z => .load ho z) r, q⟩
end
/-- the code of yield from over what stands at a -/
abbrev yfC (a : Addr) : Code := .builtin "proto.yield_from" ⟨[.ref a, .bool false, .none], []⟩
theorem yfC_is (a : Addr) : isYf (yfC a) = some a := rfl
theorem den_yfz {P : Program} {w : World} {a : Addr} : (Mz P w).den (yfC a) = ug a (Builtin.«proto.yield_from» ⟨[.ref a, .bool false, .none], []⟩) := by
  show trt (yfC a) (denote table (yfC a)) = _
  have : denote table (yfC a) = Builtin.«proto.yield_from» ⟨[.ref a, .bool false, .none], []⟩ := by
    simp only [yfC, denote, entry_yf]
  rw [this]
  rfl
theorem over_yf {A : Around} {c : Code} {fs : List Frame} {k : Result → Sem PySem.Fin} {g : Bool} {l kp : List Value} {p : Pos} {a : Addr} : A.over (yfC a) (.ret k none g l c p kp :: fs) = (A.over c fs).in1 := by
  have hw := plainId_weight plain_yf ⟨[.ref a, .bool false, .none], []⟩
  have hu := plainId_units plain_yf ⟨[.ref a, .bool false, .none], []⟩
  unfold Around.over
  simp only [List.map_cons, Frame.where_, frameCount_cons, unitsOf_cons, hw, hu, envsOf_cons, guardsOf_cons, Code.envs_of_weight hw, Code.guards_of_weight hw, pushEnvs_eq, pushGuards_eq]
  congr 1
  · dsimp only
    omega
  · cases A.frames <;> simp [List.append_assoc]
  · cases A.guards <;> simp [List.append_assoc]
  · dsimp only
    omega
end SG
namespace SG
open PySem PyProof.Rows L2
/-! ### one draw through a delegator -/
/-- as IsGO, perhaps slept over before -/
def IsGS (oa : Obj) (g : Nat) : Prop := oa.cls = .type "generator" ∧ (∃ nm qn, oa.data = .fields #[.int g 0, nm, qn]) ∧ (oa.slots = #[] ∨ oa.slots = #[some (.int 0 0)])
theorem IsGO.gs {oa : Obj} {g : Nat} (x : IsGO oa g) : IsGS oa g := ⟨x.1, x.2.1, .inl x.2.2⟩
theorem IsGS.nocell {oa : Obj} {g : Nat} (x : IsGS oa g) : ∀ v, oa.data ≠ .cell v := let ⟨_, ⟨nm, qn, d⟩, _⟩ := x; fun v z => by rw [d] at z; cases z
section
variable {P : Program} {w : World} {A : Around} {s : Shared} {a : Addr} {oa : Obj} {g : Nat}
theorem IsGS.ty (x : IsGS oa g) (ho : s.heap.get? a = some oa) : s.TypeIs (.ref a) "generator" := ⟨oa, ho, x.1⟩
theorem wz_genNumber {M : Model} {E : Value → Shared → Prop} {Q : Nat → Shared → Prop} (x : IsGS oa g) (ho : s.heap.get? a = some oa) (h : Q g s) : wpAny M A (Builtin.Generator.genNumber (.ref a)) Q E s := by
  obtain ⟨hc, ⟨nm, qn, hd⟩, hs⟩ := x
  unfold Builtin.Generator.genNumber
  refine wpAny_bind (wpAny_load ho ?_)
  rcases hs with hs | hs
  · rw [hs, hd]
    show wpAny M A (pure ((g : Int).toNat)) Q E s
    rw [Int.toNat_natCast]; exact wpAny_pure h
  · rw [hs, hd]
    show wpAny M A (pure ((g : Int).toNat)) Q E s
    rw [Int.toNat_natCast]; exact wpAny_pure h
theorem wz_special_gen {R : Shared → Prop} {Y : Yld1} {E : Value → Shared → Prop} {Q : Option Value → Shared → Prop} {gs : GenState} (hh : A.handled = none) (hl : s.heap.NoLimit) (hroom : A.depth < recursionLimit) (x : IsGS oa g) (ho : s.heap.get? a = some oa) (hgs : s.gens[g]? = some gs)
    (hgo : Goes1 (Mz P w) A.in1 (fun r s₁ => r = .ok (.ret .none) ∧ R s₁) Y (.send .none) (s.setGen g .running) gs)
    (hY : ∀ v s₁ k' l' c' p' fs' cl', cl' = false → Y v k' c' fs' s₁ → Q (some v) (s₁.setGen g (.suspended k' l' c' p' fs' cl')))
    (hE : ∀ s₁, R s₁ → ∀ h' e o vs, (∀ b o, s₁.heap.get? b = some o → h'.get? b = some o) → h'.get? e = some o → o.cls = .type "StopIteration" → o.data = .fields vs → vs[5]? = some .none → E (.ref e) { s₁.setGen g .finished with heap := h' }) :
    wpAny (Mz P w) A (callSpecial? (.ref a) (Str.ofString "__next__")) Q E s := by
  have ty := x.ty ho
  refine wpAny_callSpecial?_slot ty slot_gen_next (wz_call_entry slot_gen_next ty (by decide) entry_gen_next ?_ (args_gen_next _))
  show wpAny (Mz P w) _ (Builtin.Generator.genWake (.ref a) (.send .none)) _ _ s
  unfold Builtin.Generator.genWake
  refine wpAny_bind (wpAny_holding (wz_genNumber x ho (wpAny_bind (wpAny_genState hgs ?_))))
  cases gs with
  | running => exact hgo.elim
  | finished => exact hgo.elim
  | _ =>
    refine wpAny_bind (wpAny_roomToWake hl hroom ?_)
    show wpAny (Mz P w) _ (.resume g (.send .none) [] _) _ _ s
    refine wpAny_resume1 hgs hgo (fun x s₁ hx => ?_) (fun v s₁ k' l' c' p' fs' cl' hcl hv => ?_)
    · obtain ⟨rfl, hp⟩ := hx
      show wpAny (Mz P w) _ (newExc (.type "StopIteration") [] >>= _) _ _ _
      refine wpAny_bind ?_
      simp only [newExc, newTuple]
      refine wpAny_bind (wpAny_newObj_type ?_ (by size_fits))
      refine wpAny_bind (m := firstArgMember _ _) (wpAny_of_eq (a := Value.none) (by first | rfl | (simp only [firstArgMember]; rfl)) ?_)
      refine wpAny_newObj_type ?_ (by size_fits)
      simp only [raiseNew]
      refine wpAny_bind (wpAny_bind (wpAny_handled ?_))
      rw [show A.in1.handled = none from hh]
      refine wpAny_throw ?_
      exact hE s₁ hp _ _ _ _ (fun b o hb => Heap.get?_push_of_some _ (Heap.get?_push_of_some _ hb)) (Heap.get?_push_size _ rfl) rfl rfl rfl
    · exact wpAny_pure ⟨v, rfl, hY v s₁ k' l' c' p' fs' cl' hcl hv⟩
/-- slept over, woken -/
def slotO (n : Int) (oa : Obj) : Obj := { oa with slots := #[some (.int n 0)] }
theorem IsGS.slot {n : Int} (x : IsGS oa g) : (slotO n oa).cls = .type "generator" ∧ ∃ nm qn, (slotO n oa).data = .fields #[.int g 0, nm, qn] := ⟨x.1, x.2.1⟩
theorem IsGS.woken (x : IsGS oa g) : IsGS (slotO 0 oa) g := ⟨x.1, x.2.1, .inr rfl⟩
theorem wz_slot {M : Model} {E : Value → Shared → Prop} {Q : Unit → Shared → Prop} {o : Obj} {n : Int} (ho : s.heap.get? a = some o) (hs : o.slots = #[] ∨ ∃ z, o.slots = #[z]) (hf : ∀ sl, ({ o with slots := sl } : Obj).isFreed = false)
    (h : ∀ h' : Heap, h'.get? a = some (slotO n o) → (∀ b u, b ≠ a → s.heap.get? b = some u → h'.get? b = some u) → h'.objs.size = s.heap.objs.size → Q () { s with heap := h' }) : wpAny M A (setSlotAt a 0 (some (rawInt n))) Q E s := by
  unfold setSlotAt
  have hz : ¬ (0 ≥ sizeLine) := by decide
  rw [if_neg hz]
  refine wpAny_bind (wpAny_pure ?_)
  intro Γ p hΓ
  refine ⟨by rw [ho]; rfl, ?_⟩
  have e : (fun o : Obj => { o with slots := (o.slots ++ Array.replicate (0 + 1 - o.slots.size) none).setIfInBounds 0 (some (rawInt n)) }) o = slotO n o := by
    rcases hs with hs | ⟨z, hs⟩
    · simp [slotO, hs, rawInt]
    · simp [slotO, hs, rawInt]
  refine h _ ?_ (fun b u hb q => (Heap.get?_update_other _ _ (Ne.symm hb)).trans q) ?_
  · rw [← e]
    exact Heap.get?_update_self _ ho (hf _)
  · simp [Heap.update]
theorem wz_sleep {M : Model} {E : Value → Shared → Prop} {Q : Unit → Shared → Prop} (x : IsGS oa g) (ho : s.heap.get? a = some oa)
    (h : ∀ h' : Heap, h'.get? a = some (slotO 1 oa) → (∀ b u, b ≠ a → s.heap.get? b = some u → h'.get? b = some u) → h'.objs.size = s.heap.objs.size → Q () { s with heap := h' }) : wpAny M A (Builtin.Generator.sleptOver (.ref a) true) Q E s := by
  obtain ⟨hc, ⟨nm, qn, hd⟩, hs⟩ := x
  have hf : ∀ sl, ({ oa with slots := sl } : Obj).isFreed = false := fun sl => by simp [Obj.isFreed, hc, hd]
  unfold Builtin.Generator.sleptOver
  refine wpAny_bind (wpAny_load ho ?_)
  rw [hc, if_neg (by decide)]
  rcases hs with hs | hs
  · rw [hs]
    exact wz_slot (n := 1) ho (.inl hs) hf h
  · rw [hs]
    exact wz_slot (n := 1) ho (.inr ⟨_, hs⟩) hf h
theorem wz_wake {M : Model} {E : Value → Shared → Prop} {Q : Unit → Shared → Prop} (x : IsGS oa g) (ho : s.heap.get? a = some (slotO 1 oa))
    (h : ∀ h' : Heap, h'.get? a = some (slotO 0 oa) → (∀ b u, b ≠ a → s.heap.get? b = some u → h'.get? b = some u) → h'.objs.size = s.heap.objs.size → Q () { s with heap := h' }) : wpAny M A (Builtin.Generator.sleptOver (.ref a) false) Q E s := by
  obtain ⟨hc, ⟨nm, qn, hd⟩, hs⟩ := x
  have hf : ∀ sl, ({ oa with slots := sl } : Obj).isFreed = false := fun sl => by simp [Obj.isFreed, hc, hd]
  unfold Builtin.Generator.sleptOver
  refine wpAny_bind (wpAny_load ho ?_)
  have hc' : (slotO 1 oa).cls = .type "generator" := hc
  rw [hc', if_neg (by decide)]
  exact wz_slot (n := 0) ho (.inr ⟨_, rfl⟩) hf h
end
end SG
namespace SG
open PySem PyProof.Rows L2
theorem gen_has_close : ∃ v, typeLookup (.type "generator") "close" = pure (some v) := ⟨.builtin "generator.close", by rw [typeLookup_type, builtinLookup_eq_fast]; kernel_rfl⟩
/-- two stretches, the second over the frame of the first -/
theorem guar_trans {P : Program} {w : World} {outer : List Env} {env : Env} {n0 n1 : Nat} {H0 H H1 : Hp} {s0 s s1 : Shared} (a : Guar P w outer n0 H0 s0 H s) (b : Guar P w (env :: outer) n1 H s H1 s1) (hn : n0 ≤ n1) (hf : ∀ L, env.frame = some L → n0 ≤ L) : Guar P w outer n0 H0 s0 H1 s1 := by
  have nx : ∀ b : Addr, b ∉ ([] : List Addr) := fun b z => by simp at z
  have nf : ∀ c, c < n0 → c ∉ frs outer → c ∉ frs (env :: outer) := fun c hc h z => by
    unfold frs at z h
    rw [List.filterMap_cons] at z
    cases q : env.frame with
    | none => rw [q] at z; exact h z
    | some L =>
      rw [q] at z
      rcases List.mem_cons.mp z with z | z
      · exact absurd (hf L q) (by rw [← z]; exact Nat.not_le.mpr hc)
      · exact h z
  have up : ∀ {c : Addr} {o : Obj}, c < n0 → s.heap.get? c = some o → (cutH n1 s.heap).get? c = some o := fun l e => by rw [cutH_get (Nat.lt_of_lt_of_le l hn)]; exact e
  have bl : ∀ {c : Addr}, c < n0 → below n1 H c = H c := fun l => below_lt (Nat.lt_of_lt_of_le l hn)
  refine ⟨b.os.trans a.os, b.bare, ⟨fun c o e q h1 h2 => ?_, fun c o e q h1 h2 => ?_, fun c o e q h2 => ?_, fun c o e h2 => ?_, fun c xs e => ?_, fun c o u e => ?_, fun c ps e => ?_⟩, b.hok, a.chg.trans b.chg⟩
  · have l := (of_cutH e).1
    have f := a.un.free c o e q h2
    exact b.un.keep c o (up l (a.un.keep c o e q h1 h2)) (by rw [bl l]; exact f) (nf c l h1) h2
  · have l := (of_cutH e).1
    have f := a.un.free c o e q h2
    obtain ⟨sl, e1⟩ := a.un.slot c o e q h1 h2
    obtain ⟨sl', e2⟩ := b.un.any (up l e1) (by rw [bl l]; exact f) h2
    exact ⟨sl', e2⟩
  · have l := (of_cutH e).1
    obtain ⟨o', e1⟩ := a.un.there c o e h2
    exact b.un.free c o' (up l e1) (by rw [bl l]; exact a.un.free c o e q h2) h2
  · have l := (of_cutH e).1
    obtain ⟨o', e1⟩ := a.un.there c o e h2
    exact b.un.there c o' (up l e1) h2
  · have l := (of_below e).1
    exact b.un.tups c xs (by rw [bl l]; exact a.un.tups c xs e)
  · have l := (of_below e).1
    exact b.un.frzs c o u (by rw [bl l]; exact a.un.frzs c o u e)
  · have l := (of_below e).1
    obtain ⟨m1, e1⟩ := a.un.tbls c ps e
    obtain ⟨m2, e2⟩ := b.un.tbls c _ (by rw [bl l]; exact e1)
    exact ⟨m1 ++ m2, by rw [e2, Array.append_assoc]⟩
/-- an object that no one tells of is changed -/
theorem hok_turn {P : Program} {w : World} {H : Hp} {h h' : Heap} {a : Addr} (x : HOk P w H h) (k : ∀ b u, b ≠ a → h.get? b = some u → h'.get? b = some u) (n : H a = none) : HOk P w H h' := fun b o e =>
  (x b o e).stay (fun c u hc q => k c u (fun z => by
    rcases hc with hc | hc
    · rw [hc] at z; rw [z, n] at e; cases e
    · rw [z, n] at hc; cases hc) q) (fun _ q => q) fun _ _ q => q
theorem guar_turn {P : Program} {w : World} {outer : List Env} {n0 : Nat} {H0 H : Hp} {s0 s : Shared} {h' : Heap} {a : Addr} (g : Guar P w outer n0 H0 s0 H s) (k : ∀ b u, b ≠ a → s.heap.get? b = some u → h'.get? b = some u) (n : H a = none) (l : n0 ≤ a) (ex : ∃ o, h'.get? a = some o) : Guar P w outer n0 H0 s0 H { s with heap := h' } := by
  have ne : ∀ {c : Addr} {o : Obj}, (cutH n0 s0.heap).get? c = some o → c ≠ a := fun e z => by
    have := (of_cutH e).1
    rw [z] at this
    exact absurd l (Nat.not_le.mpr this)
  refine ⟨g.os, g.bare, ⟨fun c o e q h1 h2 => k c o (ne e) (g.un.keep c o e q h1 h2), fun c o e q h1 h2 => ?_, g.un.free, fun c o e h2 => ?_, g.un.tups, g.un.frzs, g.un.tbls⟩, hok_turn g.hok k n, g.chg⟩
  · obtain ⟨sl, e1⟩ := g.un.slot c o e q h1 h2
    exact ⟨sl, k c _ (ne e) e1⟩
  · obtain ⟨o', e1⟩ := g.un.there c o e h2
    exact ⟨o', k c _ (ne e) e1⟩
theorem guar_refl {P : Program} {w : World} {outer : List Env} {n0 : Nat} {H : Hp} {s : Shared} (hok : HOk P w H s.heap) (b : AllBare s.gens) : Guar P w outer n0 H s H s := ⟨rfl, b, un_cut, hok, Chg.refl [] H⟩
end SG
namespace SG
open PySem PyProof.Rows L2
/-! ### yield from over a generator -/
abbrev yA (G : Gc) : Around := (G.A.deeper G.env).in1
/-- where things stand: G delegates to the generator at ai -/
structure YSt (G : Gc) (ai gi n0i : Nat) : Prop where
  ok : G.Ok
  fr : (yA G).in1.frames = some (G.env :: G.outer)
  dp : (yA G).depth < recursionLimit
  n0 : G.n0 ≤ n0i
  a : G.a < n0i
  l : G.env.locals < n0i
  ai : n0i ≤ ai
  g : G.g < gi
/-- ahead of a draw -/
structure Lp (G : Gc) (ai gi n0i : Nat) (ph : Shared × Hp × List Mark × Obj) (oai : Obj) (dsi : List PyData) (proti prot : List Addr) (H : Hp) (s : Shared) (gsi : GenState) : Prop where
  gu : Guar G.P G.w G.outer G.n0 ph.2.1 ph.1 H s
  lim : s.heap.NoLimit
  ho : s.heap.get? ai = some oai
  io : IsGS oai gi
  hn : H ai = none
  hgs : s.gens[gi]? = some gsi
  go : Goes1 (Mz G.P G.w) (yA G).in1 (EndR G.P G.w (G.env :: G.outer) n0i ph.2.2.1 dsi H (s.setGen gi .running)) (YldR G.P G.w G.K G.mg G.base (yA G).in1 (G.env :: G.outer) n0i ai oai gi ph.2.2.1 dsi proti H (s.setGen gi .running)) (.send .none) (s.setGen gi .running) gsi
  own : s.heap.get? G.a = some ph.2.2.2 ∧ H G.a = none
  gd : ∀ v, ph.2.2.2.data ≠ .cell v
  loc : ∃ oL es ep, s.heap.get? G.env.locals = some oL ∧ oL.data = .dict es ep ∧ H G.env.locals = none
  pr : ∀ y ∈ proti, y ∈ prot ∨ ph.2.1 y = none
theorem frs_env {G : Gc} (ok : G.Ok) : frs (G.env :: G.outer) = G.env.locals :: frs G.outer := by
  unfold frs
  rw [List.filterMap_cons, ok.fr]
theorem env_again {G : Gc} {ai gi n0i : Nat} {oai oL : Obj} {H4 : Hp} {s4 : Shared} {h5 : Heap} (S : YSt G ai gi n0i) (io : IsGS oai gi) (e : Env0 G.P G.w G.K G.mg G.base G.A G.outer s4 H4) (h1 : s4.heap.get? ai = some (slotO 1 oai)) (hi : H4 ai = none) (k5 : ∀ b u, b ≠ ai → s4.heap.get? b = some u → h5.get? b = some u) (z5 : h5.objs.size = s4.heap.objs.size)
    (hl : s4.heap.get? G.env.locals = some oL) (hd : ∀ vs, oL.data ≠ .fields vs) (hn : H4 G.env.locals = none) (x : GenState) (hx : x.bare = true) : Env0 G.P G.w G.K G.mg G.base (yA G).in1 (G.env :: G.outer) (({ s4 with heap := h5 } : Shared).setGen gi x) H4 := by
  have lt : ∀ {b : Addr}, b < G.n0 → b ≠ ai := fun l z => by
    have := Nat.le_trans S.n0 S.ai
    rw [z] at l
    exact absurd l (Nat.not_lt.mpr this)
  have nl : G.env.locals ≠ ai := Nat.ne_of_lt (Nat.lt_of_lt_of_le S.l S.ai)
  refine ⟨S.fr, e.mod, fun b o q => ?_, by show _ ≤ h5.objs.size; rw [z5]; exact e.bsz, ?_, fun b hb => ?_, hok_turn e.hok k5 hi, allBare_setGen e.bare hx⟩
  · obtain ⟨q1, q2⟩ := e.bs b o q
    exact ⟨k5 b o (lt (Nat.lt_of_lt_of_le (Heap.lt_size q) S.ok.bsz)) q1, q2⟩
  · refine ⟨by rw [S.ok.kind]; decide, ⟨G.env.locals, oL, S.ok.fr, ?_, k5 _ _ nl hl, hd⟩, ?_⟩
    · cases q : G.base.get? G.env.locals with
      | none => rfl
      | some o => exact absurd (Nat.lt_of_lt_of_le (Heap.lt_size q) S.ok.bsz) (Nat.not_lt.mpr S.ok.loc)
    · refine Heap.FunFrames.of_keeps (fun b o q hf => ?_) e.funs
      by_cases z : b = ai
      · subst z
        rw [h1] at q
        cases q
        obtain ⟨_, nm, qn, d⟩ := io.slot (n := 1)
        exact absurd d (hf _)
      · exact ⟨o, k5 b o z q, rfl⟩
  · rw [frs_env S.ok] at hb
    rcases List.mem_cons.mp hb with hb | hb
    · rw [hb]; exact hn
    · exact e.frf b hb
theorem gs_num {oai : Obj} {gi : Nat} (io : IsGS oai gi) (n : Int) : (slotO n oai).genNumber?.isSome = true := by
  obtain ⟨hc, nm, qn, d⟩ := io.slot (n := n)
  unfold Obj.genNumber?
  rw [hc, d]
  rfl
end SG
namespace SG
open PySem PyProof.Rows L2
theorem r1_yf {G : Gc} {ai gi n0i : Nat} (S : YSt G ai gi n0i) {c0 : Code} {fs0 : List Frame} {gd : Bool → Bool} (gc : GC G c0 fs0 gd) {kk : Result → Sem PySem.Fin} {l : List Value} {p : Pos}
    (hend : ∀ (ph : Shared × Hp × List Mark × Obj) (prot : List Addr) (s : Shared) (H : Hp), Guar G.P G.w G.outer G.n0 ph.2.1 ph.1 H s → MkS ph.2.2.1 s → Go1 G ph prot [] c0 (kk (.ok (.ret .none))) fs0 s) :
    ∀ (dsi : List PyData) (ph : Shared × Hp × List Mark × Obj) (proti prot : List Addr) (oai : Obj) (H : Hp) (s : Shared) (gsi : GenState), Lp G ai gi n0i ph oai dsi proti prot H s gsi →
      Go1 G ph prot dsi (yfC ai) ((Mz G.P G.w).den (yfC ai)) (.ret kk none (gd false) l c0 p [] :: fs0) s := by
  have hfr : gd false = false := gc.gd
  have ov : G.A.over (yfC ai) (.ret kk none (gd false) l c0 p [] :: fs0) = yA G := by rw [over_yf, gc.over]
  have spl : splitAtGen (.ret kk none (gd false) l c0 p [] :: fs0) = none := by
    show (splitAtGen fs0).map _ = none
    rw [gc.split]; rfl
  have grd : (Frame.ret kk none (gd false) l c0 p [] :: fs0).any Frame.guarded = false := by
    show (gd false || fs0.any Frame.guarded) = false
    rw [gc.gd, gc.guard]; rfl
  have hf : ∀ L, G.env.frame = some L → G.n0 ≤ L := fun L e => by rw [S.ok.fr] at e; cases e; exact S.ok.loc
  have ala : G.a ≠ ai := Nat.ne_of_lt (Nat.lt_of_lt_of_le S.a S.ai)
  have alo : G.env.locals ≠ ai := Nat.ne_of_lt (Nat.lt_of_lt_of_le S.l S.ai)
  have n0ai : G.n0 ≤ ai := Nat.le_trans S.n0 S.ai
  intro dsi
  induction dsi with
  | nil =>
    intro ph proti prot oai H s gsi Li
    rw [den_yfz]
    unfold Builtin.«proto.yield_from»
    try dsimp only
    refine r1u_bind (wpAny_pure ?_)
    try dsimp only
    refine r1u_bind (wpAny_attempt (wpAny_holding ?_))
    rw [if_neg Bool.false_ne_true, if_pos (show (Value.none == Value.none) = true from rfl), ov]
    refine wpAny_bind (wpAny_rule (wpAny_bind ?_))
    refine wz_special_gen (R := fun s1 => MkS ph.2.2.1 s1 ∧ ∃ H1, Guar G.P G.w (G.env :: G.outer) n0i H (s.setGen gi .running) H1 s1) (Y := fun _ _ _ _ _ => False) S.ok.hd Li.lim S.dp Li.io Li.ho Li.hgs
      (Li.go.mono (fun r s1 q => ⟨q.1, q.2.2⟩) fun _ _ _ _ _ ⟨_, _, _, _, _, _, _, e, _⟩ => by cases e) (fun _ _ _ _ _ _ _ _ _ q => q.elim) (fun s1 hp h' e o vs hk he hc hd h5 => ?_)
    obtain ⟨mk, H1, gu⟩ := hp
    have g2 : Guar G.P G.w G.outer G.n0 ph.2.1 ph.1 H1 s1 := guar_trans Li.gu ⟨gu.os, gu.bare, gu.un, gu.hok, gu.chg⟩ S.n0 hf
    try dsimp only
    refine r1u_bind (wpAny_endsTurn (o := o) he hc ?_)
    try dsimp only
    first
      | rw [if_pos rfl]
      | skip
    first
      | refine r1u_bind (wpAny_rule ?_)
      | (rw [if_neg Bool.false_ne_true]; refine r1u_bind (wpAny_rule ?_))
      | (rw [if_neg Bool.false_ne_true]; refine r1u_bind (wpAny_pure ?_); refine r1u_bind (wpAny_rule ?_))
    refine r1u_bind (wpAny_field he hd h5 ?_)
    refine r1_leaf (.ok (.ret .none)) (hend ph prot _ H1 ?_ ?_)
    · exact ⟨g2.os, allBare_setGen g2.bare rfl, ⟨fun b o q h1 h2 h3 => hk b o (g2.un.keep b o q h1 h2 h3), fun b o q h1 h2 h3 => let ⟨sl, z⟩ := g2.un.slot b o q h1 h2 h3; ⟨sl, hk b _ z⟩, g2.un.free, fun b o q h1 => let ⟨o', z⟩ := g2.un.there b o q h1; ⟨o', hk b _ z⟩, g2.un.tups, g2.un.frzs, g2.un.tbls⟩, g2.hok.kept hk, g2.chg⟩
    · exact MkS.same (s := s1.setGen gi .finished) (mk.set fun _ _ _ _ _ _ z => by cases z) rfl
  | cons d0 ds0 ih =>
    intro ph proti prot oai H s gsi Li
    rw [den_yfz]
    unfold Builtin.«proto.yield_from»
    try dsimp only
    refine r1u_bind (wpAny_pure ?_)
    try dsimp only
    refine r1u_bind (wpAny_attempt (wpAny_holding ?_))
    rw [if_neg Bool.false_ne_true, if_pos (show (Value.none == Value.none) = true from rfl), ov]
    refine wpAny_bind (wpAny_rule (wpAny_bind ?_))
    refine GenW.wpAny_gsz (n := s.gens.size) (Nat.le_refl _) ?_
    refine wz_special_gen (R := fun _ => False) (Y := YldR G.P G.w G.K G.mg G.base (yA G).in1 (G.env :: G.outer) n0i ai oai gi ph.2.2.1 (d0 :: ds0) proti H (s.setGen gi .running)) S.ok.hd Li.lim S.dp Li.io Li.ho Li.hgs
      (Li.go.mono (fun r s1 q => by obtain ⟨_, e, _⟩ := q; cases e) fun _ _ _ _ _ q => q) (fun v s1 k' l' c' p' fs' cl' hcl hy => ?_) (fun s1 hp => hp.elim)
    intro hz
    subst hcl
    obtain ⟨d, ds', x, prot', kp', bs', H1, e, rx, fx, gu, hp, kp1, mk1, hb1, hyf, hr⟩ := hy
    cases e
    refine wpAny_pure ?_
    try dsimp only
    obtain ⟨k1, k2, k3, k4⟩ := kp1.at_ (ai, oai) (List.mem_cons_self ..)
    refine r1u_bind (wpAny_typeOf (T := "generator") ⟨oai, k1, Li.io.1⟩ ?_)
    try dsimp only
    obtain ⟨cv, hcv⟩ := gen_has_close
    first
      | (refine r1u_bind (wpAny_of_eq hcv ?_); refine r1u_bind (wpAny_pure ?_))
      | refine r1u_bind (wpAny_bind (wpAny_of_eq hcv (wpAny_pure ?_)))
      | refine r1u_bind (wpAny_of_eq hcv ?_)
    try dsimp only
    refine r1u_bind (wz_sleep (s := s1.setGen gi (.suspended k' l' c' p' fs' false)) Li.io k1 fun h3 a3 b3 z3 => ?_)
    have hsl : (slotO 1 oai).genNumber?.isSome = true := gs_num Li.io 1
    refine r1_load (o := slotO 1 oai) a3 ?_
    rw [if_pos hsl]
    have bare2 : AllBare (s1.setGen gi (.suspended k' l' c' p' fs' false)).gens := allBare_setGen gu.bare rfl
    have g1 : Guar G.P G.w G.outer G.n0 ph.2.1 ph.1 H1 s1 := guar_trans Li.gu ⟨gu.os, gu.bare, gu.un, gu.hok, gu.chg⟩ S.n0 hf
    have g2 : Guar G.P G.w G.outer G.n0 ph.2.1 ph.1 H1 (s1.setGen gi (.suspended k' l' c' p' fs' false)) := ⟨g1.os, bare2, g1.un, g1.hok, g1.chg⟩
    have g3 := guar_turn g2 b3 k2 n0ai ⟨_, a3⟩
    have nx : ∀ b : Addr, b ∉ ([] : List Addr) := fun b z => by simp at z
    obtain ⟨own1, own2⟩ := Li.own
    obtain ⟨oL, es, ep, lo1, lo2, lo3⟩ := Li.loc
    have nfa : G.a ∉ frs (G.env :: G.outer) := fun z => by
      rw [frs_env S.ok] at z
      rcases List.mem_cons.mp z with z | z
      · exact S.ok.gal z
      · exact absurd (S.ok.old _ z) (Nat.not_lt.mpr S.ok.ga)
    have cutA : (cutH n0i s.heap).get? G.a = some ph.2.2.2 := by rw [cutH_get S.a]; exact own1
    have cutL : (cutH n0i s.heap).get? G.env.locals = some oL := by rw [cutH_get S.l]; exact lo1
    have blA : below n0i H G.a = none := by rw [below_lt S.a]; exact own2
    have blL : below n0i H G.env.locals = none := by rw [below_lt S.l]; exact lo3
    have a1 : s1.heap.get? G.a = some ph.2.2.2 := gu.un.keep _ _ cutA blA nfa (nx _)
    have a2 : H1 G.a = none := gu.un.free _ _ cutA blA (nx _)
    obtain ⟨sl, l1⟩ := gu.un.any cutL blL (nx _)
    have l2 : H1 G.env.locals = none := gu.un.free _ _ cutL blL (nx _)
    have gs2 : ∀ {i : Nat} {y : GenState}, i ≠ gi → s1.gens[i]? = some y → (s1.setGen gi (.suspended k' l' c' p' fs' false)).gens[i]? = some y := fun {i y} n e => by
      show (s1.gens.setIfInBounds gi _)[i]? = some y
      rw [Array.getElem?_setIfInBounds_ne (Ne.symm n)]
      exact e
    refine r1_yield spl rfl grd ?_
    refine ⟨d0, ds0, x, prot', (ai, slotO 1 oai) :: (G.env.locals, { oL with slots := sl }) :: kp', (G.g, ai, slotO 1 oai) :: bs', H1, rfl, rx, fx, g3, fun y hy => ?_, ⟨fun q hq => ?_, fun q hq => ?_⟩, ?_, fun b hb => ?_, fun y hy => ?_, fun l5 p5 cl5 => rdy_iff.mpr fun Bf2 oa2 H4 s4 hd2 hl2 rel mk4 => ?_⟩
    · refine ⟨?_, (hp y hy).2⟩
      rcases (hp y hy).1 with z | z
      · exact Li.pr y z
      · exact .inr (Li.gu.chg.dom y z)
    · rcases List.mem_cons.mp hq with e | hq
      · rw [e]; exact ⟨b3 _ _ ala a1, a2, Li.gd, S.ok.ga⟩
      rcases List.mem_cons.mp hq with e | hq
      · rw [e]; exact ⟨a3, k2, Li.io.woken.nocell, n0ai⟩
      rcases List.mem_cons.mp hq with e | hq
      · rw [e]; exact ⟨b3 _ _ alo l1, l2, (fun v z => by rw [show ({ oL with slots := sl } : Obj).data = oL.data from rfl, lo2] at z; cases z), S.ok.loc⟩
      · obtain ⟨q1, q2, q3, q4⟩ := kp1.at_ q (List.mem_cons_of_mem _ hq)
        exact ⟨b3 _ _ (kp1.ap q hq) q1, q2, q3, Nat.le_trans S.n0 q4⟩
    · rcases List.mem_cons.mp hq with e | hq
      · rw [e]; exact Ne.symm ala
      rcases List.mem_cons.mp hq with e | hq
      · rw [e]; exact Ne.symm S.ok.gal
      · have := (kp1.at_ q (List.mem_cons_of_mem _ hq)).2.2.2
        exact Nat.ne_of_gt (Nat.lt_of_lt_of_le S.a this)
    · have m2 : MkS (ph.2.2.1 ++ bs') (s1.setGen gi (.suspended k' l' c' p' fs' false)) := mk1.set fun _ _ _ _ _ _ z y hy hl => by
        cases z
        obtain ⟨oy, z1, z2⟩ := hyf y hy
        exact ⟨oy, List.mem_append_right _ z1, z2⟩
      exact MkS.same (s := s1.setGen gi (.suspended k' l' c' p' fs' false)) (m2.mono fun b hb => (List.mem_append.mp hb).elim (List.mem_append_left _) fun z => List.mem_append_right _ (List.mem_cons_of_mem _ z)) rfl
    · rcases List.mem_cons.mp hb with e | hb
      · rw [e]; exact List.mem_cons_self ..
      · exact List.mem_cons_of_mem _ (List.mem_cons_of_mem _ (hb1 b hb))
    · have hy : some ai = some y := hy
      cases hy
      exact ⟨slotO 1 oai, List.mem_cons_self .., hsl⟩
    · have at4 : ∀ q, q ∈ (ai, slotO 1 oai) :: (G.env.locals, ({ oL with slots := sl } : Obj)) :: kp' → s4.heap.get? q.1 = some q.2 ∧ H4 q.1 = none := fun q hq => rel.kp q (List.mem_cons_of_mem _ hq)
      obtain ⟨i1, i2⟩ := at4 _ (List.mem_cons_self ..)
      obtain ⟨i3, i4⟩ := at4 _ (List.mem_cons_of_mem _ (List.mem_cons_self ..))
      show R1 _ _ _ _ _ (ug ai (Builtin.Generator.sleptOver (.ref ai) false >>= _)) _ s4
      refine r1u_bind (wz_wake Li.io i1 fun h5 a5 b5 z5 => ?_)
      try dsimp only
      refine r1u_bind (wpAny_pure ?_)
      refine r1_again (plainId_quiet plain_yf _) ?_
      have hgi1 : gi < s1.gens.size := by
        have h9 := (Array.getElem?_eq_some_iff.mp Li.hgs).1
        rw [GenW.setGen_size] at hz
        exact Nat.lt_of_lt_of_le h9 hz
      have g4 : s4.gens[gi]? = some (.suspended k' l' c' p' fs' false) := rel.gens.slp gi _ S.g (setGen_at hgi1) rfl
      have e4 := env_again S Li.io rel.e0 i1 i2 b5 z5 i3 (fun vs z => by rw [show ({ oL with slots := sl } : Obj).data = oL.data from rfl, lo2] at z; cases z) i4 .running rfl
      have mk5 : MkS (Bf2 ++ bs') (({ s4 with heap := h5 } : Shared).setGen gi .running) := MkS.set (s := { s4 with heap := h5 }) ((mk4.drop rel.run).same rfl) fun _ _ _ _ _ _ z => by cases z
      have go5 := rdy_iff.mp (hr l' p' false) Bf2 (slotO 0 oai) H4 (({ s4 with heap := h5 } : Shared).setGen gi .running) Li.io.woken.nocell S.ai ⟨?_, e4, fun q hq => ?_, ⟨?_, fun i y n e z => ?_⟩, rel.tups, rel.prot, setGen_at (Array.getElem?_eq_some_iff.mp g4).1⟩ mk5
      rotate_left
      · exact rel.os
      · rcases List.mem_cons.mp hq with e | hq
        · rw [e]; exact ⟨a5, i2⟩
        · obtain ⟨q1, q2⟩ := at4 q (List.mem_cons_of_mem _ (List.mem_cons_of_mem _ hq))
          exact ⟨b5 _ _ (kp1.ap q hq) q1, q2⟩
      · have h9 := rel.gens.le
        have h9 : (s1.setGen gi (.suspended k' l' c' p' fs' false)).gens.size ≤ s4.gens.size := h9
        rw [GenW.setGen_size] at h9 ⊢
        exact h9
      · have h8 : s4.gens[i]? = some y := rel.gens.slp i y (Nat.lt_trans S.g n) (gs2 (Nat.ne_of_gt n) e) z
        show (s4.gens.setIfInBounds gi .running)[i]? = some y
        rw [Array.getElem?_setIfInBounds_ne (Nat.ne_of_lt n)]
        exact h8
      have own4 := rel.kp (G.a, oa2) (List.mem_cons_self ..)
      refine ih (s4, H4, Bf2, oa2) prot' prot' (slotO 0 oai) H4 { s4 with heap := h5 } _ ⟨guar_turn (guar_refl rel.e0.hok rel.e0.bare) b5 i2 n0ai ⟨_, a5⟩, ?_, a5, Li.io.woken, i2, g4, go5, ⟨b5 _ _ ala own4.1, own4.2⟩, hd2, ⟨_, es, ep, b5 _ _ alo i3, lo2, i4⟩, fun y hy => .inl hy⟩
      refine (rel.e0.mod.nolimit.keeps fun b o q => ?_)
      exact (e4.bs b o q).1
end SG
namespace SG
open PySem PyProof.Rows L2
/-- the last statements of a generator's body -/
structure GSsY (G : Gc) (st : List Stmt) (t : TGn) : Prop where
  run : ∀ (ph : Shared × Hp × List Mark × Obj) (prot : List Addr) (ds : List PyData) (s : Shared) (σ : L2.St) (H : Hp) (B0 : List Stmt), GIv G ph (#[], []) [] σ H s → t GFin prot ph.2.1 ds σ H →
    Go1 G ph prot ds (.func B0 G.env) ((execs st G.env).wrap Kend (Jend G.env) id id) [] s
theorem gc_func {G : Gc} {B0 : List Stmt} : GC G (.func B0 G.env) [] id := ⟨GenW.over_func, rfl, rfl, rfl, rfl⟩
theorem go_end {G : Gc} {ph : Shared × Hp × List Mark × Obj} {prot : List Addr} {c : Code} {s : Shared} {H : Hp} (g : Guar G.P G.w G.outer G.n0 ph.2.1 ph.1 H s) (m : MkS ph.2.2.1 s) : Go1 G ph prot [] c (.pure (.done (.ret .none))) [] s :=
  r1_end (.ok (.ret .none)) ⟨rfl, rfl, m, H, g⟩
section
variable {G : Gc} {st : Stmt} {rest : List Stmt} {t u : TGn}
theorem gsy_of (h : GSs G false rest t) : GSsY G rest t := by
  refine ⟨fun ph prot ds s σ H B0 gi ht => ?_⟩
  refine h.run ph prot ds (#[], []) [] _ [] _ _ id id s σ H GFin (fun _ => rfl) gc_func ⟨fun ph' prot' ds' fl s' hs => ?_⟩ gi ht
  cases fl with
  | next =>
    obtain ⟨σ', H', gi, hd, hc⟩ := hs
    subst hd
    exact go_end (Guar.of gi.inv hc) (by simpa using gi.mks)
  | ret u =>
    obtain ⟨v, σ', H', gi, rv, hv, hd, hc⟩ := hs
    subst hv
    subst hd
    cases rv
    exact go_end (Guar.of gi.inv hc) (by simpa using gi.mks)
  | brk => obtain ⟨_, _, _, q⟩ := hs; exact q.elim
  | cont => obtain ⟨_, _, _, q⟩ := hs; exact q.elim
theorem gsy_cons (a : GS G false st t) (b : GSsY G rest u) : GSsY G (st :: rest) (fun D prot H0 ds σ H => t { nx := u D, rt := D.rt } prot H0 ds σ H) := by
  refine ⟨fun ph prot ds s σ H B0 gi ht => ?_⟩
  refine r1_execs_cons (a.run ph prot ds (#[], []) [] _ [] _ (Jend G.env) id id s σ H { nx := u GFin, rt := GFin.rt } (fun _ => rfl) gc_func ⟨fun ph' prot' ds' f s' hs => ?_⟩ gi ht)
  cases f with
  | next => obtain ⟨σ', H', gi', q⟩ := hs; exact b.run ph' prot' ds' s' σ' H' B0 gi' q
  | ret u =>
    obtain ⟨v, σ', H', gi, rv, hv, hd, hc⟩ := hs
    subst hv
    subst hd
    cases rv
    exact go_end (Guar.of gi.inv hc) (by simpa using gi.mks)
  | brk => obtain ⟨_, _, _, q⟩ := hs; exact q.elim
  | cont => obtain ⟨_, _, _, q⟩ := hs; exact q.elim
end
def tGYf (tg : TGc) : TGn := fun _ prot H0 ds σ H => tg σ H fun ds' proti H1 => ds' = ds ∧ Chg [] [] H0 H1 ∧ ∀ y ∈ proti, y ∈ prot ∨ H0 y = none
theorem gsy_yf {G : Gc} {k : Nat} {e : Expr} {yp pos : Pos} {tg : TGc} (ok : G.Ok) (hr : Room k (yA G).in1) (hrd : (yA G).depth < recursionLimit) (hfr : (yA G).in1.frames = some (G.env :: G.outer)) (he : ∀ s H oa, PGn (G.at s H oa) k e tg) (hi : interactive G.env = false := by rfl) : GSsY G [.Expr (.YieldFrom e yp) pos] (tGYf tg) := by
  refine ⟨fun ph prot ds s σ H B0 gi ht => ?_⟩
  have gc : GC G (.func B0 G.env) [] id := gc_func
  refine r1_execs_cons ?_
  rw [exec_Expr G.env _ pos hi rfl]
  show R1 (Mz G.P G.w) _ _ _ _ (.at pos fun _ => ((eval e G.env >>= fun v => (standAt yp >>= fun _ => yieldFrom G.env v)) >>= fun x =>
    dropValue (.YieldFrom e yp) pos x).wrap _ _ id id) [] s
  refine r1_at ?_
  refine r1_bind2 ?_
  rw [gc.over]
  refine wpAny_mono ((he ph.1 ph.2.1 ph.2.2.2).run (ph.2.2.1 ++ []) [] s σ H _ gi.mks gi.inv ht) (fun v s1 q => ?_) fun _ _ q => q
  obtain ⟨m1, H1, ai, g1, oai, kpi, gsi, n0i, ds', proti, e1, I1, Bl, hgl, d, hds, c1, hp⟩ := q
  subst e1
  subst hds
  rw [List.append_nil] at m1
  have ho : s1.heap.get? ai = some oai := (d.kpa _ (List.mem_cons_self ..)).1
  refine r1_at ?_
  show R1 (Mz G.P G.w) _ _ _ _ ((yieldFrom G.env (.ref ai)).wrap (fun b => (dropValue (.YieldFrom e yp) pos b).wrap _ _ id id) _ id id) [] s1
  unfold yieldFrom
  refine r1_bind_wrap (wpAny_typeOf (d.go.gs.ty ho) ?_)
  rw [if_neg (by decide)]
  refine r1_bind_wrap (wpAny_holding (wz_pyIter_gen (d.go.gen ho) ?_))
  refine r1_call fun p => ?_
  have hl0 : G.env.locals < n0i := Bl.loc
  have ha0 : G.a < n0i := Bl.pin (G.a, ph.2.2.2) (List.mem_cons_self ..)
  have S : YSt G ai g1 n0i := ⟨ok, hfr, hrd, Nat.le_trans ok.loc (Nat.le_of_lt hl0), ha0, hl0, d.na, Nat.lt_of_lt_of_le gi.lt hgl⟩
  have own := I1.pin (G.a, ph.2.2.2) (List.mem_cons_self ..)
  obtain ⟨m, ⟨oL, es, ep, hoL, hdL, _⟩, _⟩ := I1.loc
  have hmk : MkS ph.2.2.1 (s1.setGen g1 .running) := m1.set fun _ _ _ _ _ _ z => by cases z
  have go := rdy_iff.mp (d.rdy (yA G).in1 hr hfr) ph.2.2.1 oai H1 (s1.setGen g1 .running) d.go.nocell d.na ⟨rfl, env0_gens I1.env0 (by rw [hfr]; exact I1.env0.frames.symm) rfl (allBare_setGen I1.bare rfl), d.kpa, ⟨by rw [GenW.setGen_size]; exact Nat.le_refl _, fun i y n e z => ?_⟩, fun _ _ h => h, fun _ _ => rfl, setGen_at (Array.getElem?_eq_some_iff.mp d.at_).1⟩ (by rw [List.append_nil]; exact hmk)
  rotate_left
  · show (s1.gens.setIfInBounds g1 .running)[i]? = some y
    rw [Array.getElem?_setIfInBounds_ne (Nat.ne_of_lt n)]
    exact e
  refine r1_yf S gc (fun ph' prot' s' H' g' m' => ?_) ds' ph proti prot oai H1 s1 gsi ⟨Guar.of I1 c1, I1.nolimit, ho, d.go.gs, (d.kpa _ (List.mem_cons_self ..)).2, d.at_, go, ⟨own.1, own.2.1⟩, gi.gd, ⟨oL, es, ep, hoL, hdL, I1.free⟩, hp⟩
  · exact go_end g' m'
/-- a generator def by its body -/
theorem gny {P : Program} {w : World} {K : PySem.W.Frag} {mg : Str → Option Value} {base : Heap} {k : Nat} {x qual : Str} {st : Stmt} {f : Addr} {fd : FuncData} {N ps : List Str} {sp : GSp} (F : Fun K x qual st f fd) (S : GScope N ps (defScope st)) (len : ∀ vs H ds prot, sp vs H ds prot → vs.length = ps.length)
    (hbody : ∀ (cdv : Value) (A : Around) (outer : List Env) (n0 : Nat) (a : Addr) (g : Nat) (os : OsState) (H : Hp) (vs : List V) (ds : List PyData) (prot : List Addr), Room k (A.deeper (envOfC qual (defScope st) n0 f cdv)) → A.frames = some outer → (gcOf P w K mg base N qual (defScope st) f cdv A outer n0 a g os).Ok → sp vs H ds prot →
      ∃ t, GSsY (gcOf P w K mg base N qual (defScope st) f cdv A outer n0 a g os) (defBody st) t ∧ ∀ H', Tups H H' → (∀ y ∈ prot, H' y = H y) → t GFin prot H' ds (start N vs) H') : GnOk P w K mg base (k + 1) f fd ps sp := by
  obtain ⟨oc, od, kV, doc, pm, an, cdv, ct, osl, rfl, lk, hcd⟩ := F.ex
  refine gn_raw lk hcd S len fun A outer n0 a g os H vs ds prot hr hf hok hsp ph H' s' e gi tu hp => ?_
  obtain ⟨t, h, q⟩ := hbody cdv A outer n0 a g os H vs ds prot hr hf hok hsp
  exact h.run ph prot ds s' (start N vs) H' _ gi (by rw [e]; exact q H' tu hp)
end SG
namespace SG
open PySem PyProof.Rows L2
/-! ### for over a generator, in a generator's body -/
def tGForG (tg : TGc) (g : TG) (tb : TGn) : TGn := fun D prot H0 ds σ H => tg σ H fun dsi proti H1 => ∃ W : List PyData → List Addr → List Addr → Hp → List PyData → L2.St → Hp → Prop, W dsi proti prot H0 ds σ H1 ∧ (∀ proti prot H0 ds σ H, W [] proti prot H0 ds σ H → ∀ H', Chg [] [] H H' → D.nx prot H0 ds σ H') ∧
  ∀ d dsi proti prot H0 ds σ H, W (d :: dsi) proti prot H0 ds σ H → ∀ x H' proti', Chg [] [] H H' → Ft H' d x → (∀ y ∈ proti', (y ∈ proti ∨ H y = none) ∧ H' y ≠ none) → g x σ H' fun σ2 H2 =>
    tb { nx := fun prot' H0' ds' σ3 H3 => Tups H' H3 ∧ (∀ y ∈ proti', H3 y = H' y) ∧ W dsi proti' prot' H0' ds' σ3 H3, ct := fun prot' H0' ds' σ3 H3 => Tups H' H3 ∧ (∀ y ∈ proti', H3 y = H' y) ∧ W dsi proti' prot' H0' ds' σ3 H3, rt := fun _ _ _ _ _ => False } prot H0 ds σ2 H2
theorem below_ph {G : Gc} {pins : List (Addr × Obj)} {n0i : Nat} {ph : Shared × Hp × List Mark × Obj} (s' : Shared) (H' : Hp) (oa' : Obj) (B : Below (G.at ph.1 ph.2.1 ph.2.2.2) pins n0i) (hn : G.n0 ≤ s'.heap.objs.size) (h2 : G.n0 ≤ n0i) : Below (G.at s' H' oa') pins n0i where
  s0 := by show (cutH G.n0 s'.heap).objs.size ≤ n0i; rw [cutH_size hn]; exact h2
  loc := B.loc
  cell := B.cell
  pin := fun p hp => (List.mem_cons.mp hp).elim (fun z => by rw [z]; exact B.pin (G.a, ph.2.2.2) (List.mem_cons_self ..)) fun z => B.pin p (List.mem_cons_of_mem _ z)
  tups := fun b xs e => Nat.lt_of_lt_of_le (of_below e).1 h2
  frzs := fun b o u e => Nat.lt_of_lt_of_le (of_below e).1 h2
  tbls := fun b ps e => Nat.lt_of_lt_of_le (of_below e).1 h2
structure GIw (G : Gc) (ph : Shared × Hp × List Mark × Obj) (pins : List (Addr × Obj)) (σ : L2.St) (H : Hp) (s : Shared) : Prop where
  inv : Inv (G.at ph.1 ph.2.1 ph.2.2.2) pins σ H s
  lt : G.g < s.gens.size
  sz : G.n0 ≤ ph.1.heap.objs.size
  os : ph.1.os = G.os
  gd : ∀ v, ph.2.2.2.data ≠ .cell v
theorem gs_forG {G : Gc} {k : Nat} {tg iter : Expr} {body : List Stmt} {wi : TGc} {g : TG} {tb : TGn} {pos : Pos} (ok : G.Ok) (hr : Room k (G.A.deeper G.env).in1) (hrd : (G.A.deeper G.env).depth < recursionLimit) (hfA : G.A.frames = some G.outer) (hi : ∀ s H oa, PGn (G.at s H oa) k iter wi) (hg : ∀ s H oa, PG (G.at s H oa) tg g) (hb : GSs G true body tb)
    (hs : ∀ x, foldedSetIterable iter G.env x = pure x := by intro _; rfl) : GS G false (.For tg iter body [] pos) (tGForG wi g tb) := by
  refine ⟨fun ph prot ds Z pins c fs K J gd lv s σ H D hz gc kk gi ht => ?_⟩
  have hz := hz rfl
  subst hz
  refine r1_For ?_ hs
  rw [gc.over]
  refine wpAny_mono ((hi ph.1 ph.2.1 ph.2.2.2).run (ph.2.2.1 ++ []) pins s σ H _ gi.mks gi.inv ht) (fun v s1 q => ?_) fun _ _ q => q
  obtain ⟨m1, H1, ai, g1, oai, kpi, gsi, n0i, dsi, proti, e1, I1, Bl, hgl, d, W, w0, wn, wc⟩ := q
  subst e1
  rw [List.append_nil] at m1
  have ho : s1.heap.get? ai = some oai := (d.kpa _ (List.mem_cons_self ..)).1
  refine wz_pyIter_gen (d.go.gen ho) ?_
  intro p
  have hl0 : G.env.locals < n0i := Bl.loc
  have hn0 : G.n0 ≤ n0i := Nat.le_trans ok.loc (Nat.le_of_lt hl0)
  have ha0 : G.a < n0i := Bl.pin (G.a, ph.2.2.2) (List.mem_cons_self ..)
  have hg0 : G.g < g1 := Nat.lt_of_lt_of_le gi.lt hgl
  have gl : GC G (.forLoop tg (.ref ai) body [] G.env) (.ret (loopK G.env K J gd lv) none (gd false) (lv []) c p [] :: fs) id := gc_loop gc rfl rfl rfl
  have R0 := ready_new (X := G.at ph.1 ph.2.1 ph.2.2.2) (Bf := ph.2.2.1) I1 hr m1 d
  have gsz : g1 < s1.gens.size := (Array.getElem?_eq_some_iff.mp d.at_).1
  have po := gi.po
  have pa := gi.pa
  have go : ∀ (dsi : List PyData) (ph : Shared × Hp × List Mark × Obj) (prot proti : List Addr) (ds : List PyData) (s : Shared) (σ : L2.St) (H : Hp), Below (G.at ph.1 ph.2.1 ph.2.2.2) pins n0i → W dsi proti prot ph.2.1 ds σ H → GIw G ph pins σ H s → Ready (G.at ph.1 ph.2.1 ph.2.2.2) ph.2.2.1 n0i ai oai g1 dsi proti H s →
      Go1 G ph prot ds (.forLoop tg (.ref ai) body [] G.env) ((Mz G.P G.w).den (.forLoop tg (.ref ai) body [] G.env)) (.ret (loopK G.env K J gd lv) none (gd false) (lv []) c p [] :: fs) s := by
    intro dsi
    induction dsi with
    | nil =>
      intro ph prot proti ds s σ H Bl w gi R
      refine r1_forLoop ?_
      rw [gl.over]
      refine wpAny_mono (draw gi.inv Bl ok.hd hrd d.go R) (fun r s4 h4 => ?_) fun _ _ q => q
      obtain ⟨hz4, h4⟩ := h4
      rcases h4 with ⟨rfl, _, m4, H4, c4, I4⟩ | ⟨v, dd, ds', x, prot', kp', bs', H4, sy, gs4, rfl, e, _⟩
      · exact fun c' => r1_leaf (.ok .next) (kk.ok ph prot ds .next s4 ⟨σ, H4, ⟨I4, KeepX.empty, Nat.lt_of_lt_of_le gi.lt hz4, po, gi.sz, gi.os, by rw [List.append_nil]; exact m4, (fun b hb => by cases hb), gi.gd, pa⟩, wn proti prot ph.2.1 ds σ H w H4 c4⟩)
      · cases e
    | cons d1 dsi ih =>
      intro ph prot proti ds s σ H Bl w gi R
      have hgz : g1 < s.gens.size := by
        obtain ⟨gs3, e3, _⟩ := R
        exact (Array.getElem?_eq_some_iff.mp e3).1
      refine r1_forLoop ?_
      rw [gl.over]
      refine wpAny_mono (draw gi.inv Bl ok.hd hrd d.go R) (fun r s4 h4 => ?_) fun _ _ q => q
      obtain ⟨hz4, h4⟩ := h4
      rcases h4 with ⟨rfl, e, _⟩ | ⟨v, dd, ds', x, proti', kp', bs', H4, sy, gs4, rfl, e, rx, fx, c4, hpr, I4, e4, hsl, hk4, m4, hb4, hr4⟩
      · cases e
      cases e
      have g4 : s4.gens[g1]? = some gs4 := by
        rw [e4]
        refine setGen_at ?_
        have := Nat.lt_of_lt_of_le hgz hz4
        rw [e4, GenW.setGen_size] at this
        exact this
      refine wpAny_mono (go_gen d.go (hk4.at_ _ (List.mem_cons_self ..)).1 ?_) (fun _ _ q => q) fun _ _ q => q
      have I5 := kp_pins I4 Bl hk4
      refine wpAny_mono (pg_kz (hg ph.1 ph.2.1 ph.2.2.2) rfl I5 rx (wc d1 dsi proti prot ph.2.1 ds σ H w x H4 proti' c4 fx hpr)) (fun _ s6 ⟨k6, σ6, H6, I6, q6⟩ => ?_) fun _ _ q => q
      have kn : ∀ q ∈ (ai, oai) :: kp', n0i ≤ q.1 := fun q hq => (hk4.at_ q hq).2.2.2
      have gi6 : GIv G ph (s4.gens, bs') (pins ++ ((ai, oai) :: kp')) σ6 H6 s6 := ⟨I6, k6.1.x _, Nat.lt_of_lt_of_le (Nat.lt_of_lt_of_le gi.lt hz4) k6.1.le, fun q hq => (List.mem_append.mp hq).elim (po q) fun z => Nat.le_trans hn0 (kn q z), gi.sz, gi.os, k6.2 _ m4, fun b hb => List.mem_append_right _ (List.mem_cons_of_mem _ (hb4 b hb)), gi.gd,
        fun q hq => (List.mem_append.mp hq).elim (pa q) fun z => Nat.ne_of_gt (Nat.lt_of_lt_of_le ha0 (kn q z))⟩
      refine hb.run ph prot ds (s4.gens, bs') _ _ _ _ _ id id s6 σ6 H6 _ (fun z => by cases z) gl ⟨fun ph' prot' ds' f s7 hs => ?_⟩ gi6 q6
      have again : ∀ {σ7 : L2.St} {H7 : Hp}, GIv G ph' (s4.gens, bs') (pins ++ ((ai, oai) :: kp')) σ7 H7 s7 → (Tups H4 H7 ∧ (∀ y ∈ proti', H7 y = H4 y) ∧ W dsi proti' prot' ph'.2.1 ds' σ7 H7) → Go1 G ph' prot' ds' (.forLoop tg (.ref ai) body [] G.env) ((Mz G.P G.w).den (.forLoop tg (.ref ai) body [] G.env)) (.ret (loopK G.env K J gd lv) none (gd false) (lv []) c p [] :: fs) s7 := fun {σ7 H7} gi7 ⟨n1, n2, n3⟩ => by
        have pin7 : ∀ q ∈ (ai, oai) :: kp', s7.heap.get? q.1 = some q.2 ∧ H7 q.1 = none := fun q hq => by
          have z := gi7.inv.pin q (List.mem_append_right _ (List.mem_append_right _ hq))
          exact ⟨z.1, z.2.1⟩
        have Bl7 := below_ph ph'.1 ph'.2.1 ph'.2.2.2 Bl gi7.sz hn0
        have os7 : s7.os = s4.os := gi7.inv.os.trans (gi7.os.trans (gi.os.symm.trans I4.os.symm))
        have R7 := ready_next (X := G.at ph.1 ph.2.1 ph.2.2.2) (X' := G.at ph'.1 ph'.2.1 ph'.2.2.2) (Bf := ph'.2.2.1) ⟨rfl, rfl, rfl, rfl, rfl, rfl, rfl⟩ hr4 d.go gi7.mks e4 hsl hk4 gi7.inv os7 pin7 (gi7.kz.slp g1 gs4 hg0 g4 hsl) (gi7.kz.mono (Nat.le_of_lt hg0)) n1 n2
        refine ih ph' prot' proti' ds' s7 σ7 H7 Bl7 n3 ⟨gi7.inv.unpinned, gi7.lt, gi7.sz, gi7.os, gi7.gd⟩ R7
      cases f with
      | next => obtain ⟨σ7, H7, gi7, n7⟩ := hs; exact r1_again rfl (again gi7 n7)
      | cont => obtain ⟨σ7, H7, gi7, n7⟩ := hs; exact r1_again rfl (again gi7 n7)
      | brk => obtain ⟨_, _, _, q⟩ := hs; exact q.elim
      | ret v => obtain ⟨_, _, _, _, _, q⟩ := hs; exact q.elim
  exact go dsi ph prot proti ds s1 σ H1 Bl w0 ⟨I1, Nat.lt_of_lt_of_le (Nat.lt_of_lt_of_le gi.lt hgl) (Nat.le_of_lt gsz), gi.sz, gi.os, gi.gd⟩ R0
end SG
namespace SG
open PySem PyProof.Rows L2
/-! ### readings that do not name their context -/
def tTr (K : PySem.W.Frag) (ta : TE) : TT := fun σ H Q => ta σ H fun x H' => ∃ k, TruV K x H' k ∧ Q k H'
theorem pt_trK {X : Cx} {a : Expr} {ta : TE} {K : PySem.W.Frag} (hK : X.K = K) (ha : PE X a ta) (he : ∀ whole, isTrue a X.env whole = (do let v ← whole; standAt a.pos; holding [v] (truthy v))) : PT X a (tTr K ta) := by
  subst hK
  exact pt_truth ha he
theorem pg_tupK {X : Cx} {K : PySem.W.Frag} {es : List Expr} {k : Nat} {p : Pos} {t : TGs} {n : Nat} (hK : X.K = K) (hc : X.calm = true) (h : PGs X es t) (hn : (assignEach es X.env).length = n := by rfl) (hst : (assignEach es X.env).findIdx? (·.1) = none := by rfl) : PG X (.Tuple es k p) (gTup K n t) := by
  subst hK
  exact pg_tup hc h hn hst
theorem zt_pt {X : Cx} {e : Expr} {t : TT} (hx : XNo X) (h : PT X e t) : PTz X e t := ⟨fun B pins s σ H Q m I ht => wpAny_mono (pt_kz h hx I ht) (fun f u q => ⟨q.1.2 B m, q.2⟩) fun _ _ q => q⟩
end SG
namespace SG
open PySem L2
/-! ### the real machine goes along -/
def simG : GenState → GenState
  | .suspended k l c p fs cl => .suspended (fun r => trt c (k r)) (match isYf c with | some _ => if cl = true then [.none] else [] | none => l) c p (fs.map trF) (cl && ((isYf c).isNone || fs.any Frame.guarded))
  | x => x
def simS (s : Shared) : Shared := { s with gens := s.gens.map simG }
def simT (t : Thread) : Thread := ⟨trt t.code t.cur, t.code, t.pos, t.stack.map trF⟩
def simP : Step → Step
  | .go s t => .go (simS s) (simT t)
  | .halt o s => .halt o (simS s)
theorem simS_set (s : Shared) (g : Nat) (x : GenState) : (simS s).gens.setIfInBounds g (simG x) = (s.gens.setIfInBounds g x).map simG := by
  show (s.gens.map simG).setIfInBounds g (simG x) = _
  rw [Array.map_setIfInBounds]
theorem simS_get (s : Shared) (g : Nat) : (simS s).gens[g]? = (s.gens[g]?).map simG := by show (s.gens.map simG)[g]? = _; rw [Array.getElem?_map]
/-- a mark that is taken off -/
def offY (t : Thread) : Bool := match t.cur with
  | .yield _ true _ _ => (isYf t.code).isSome
  | _ => false
section
variable {P : Program} {w : World}
theorem sim_step {s : Shared} {t : Thread} (h : offY t = false) (he : t.atItsEnd = false) (hc : (simT t).calm = true) : step (Mz P w).den P w (simS s) (simT t) = simP (step (denote table) P w s t) := by
  obtain ⟨heap, gens, drawn, toks, os⟩ := s
  obtain ⟨cur, code, pos, stack⟩ := t
  cases cur with
  | pure x =>
    show step _ _ _ _ ⟨trt code (.pure x), code, pos, stack.map trF⟩ = _
    rw [trt_pure]
    cases x with
    | done f =>
      cases stack with
      | nil => cases he
      | cons F r => cases F with
        | ret => rfl
        | gen g k l c p => simp only [step, simS, simT, simP, List.map_cons, trF, Array.map_setIfInBounds, simG]
    | again c =>
      cases stack with
      | nil => cases code <;> cases c <;> rfl
      | cons F r => cases F <;> cases code <;> cases c <;> rfl
  | raise x =>
    show step _ _ _ _ ⟨trt code (.raise x), code, pos, stack.map trF⟩ = _
    rw [trt_raise]
    cases stack with
    | nil => cases he
    | cons F r => cases F with
      | ret => rfl
      | gen g k l c p => simp only [step, simS, simT, simP, List.map_cons, trF, Array.map_setIfInBounds, simG]
  | unsupported x => show step _ _ _ _ ⟨trt code (.unsupported x), code, pos, stack.map trF⟩ = _; rw [trt_unsup]; rfl
  | finish x => cases he
  | rule a k => show step _ _ _ _ ⟨trt code (.rule a k), code, pos, stack.map trF⟩ = _; rw [trt_rule]; rfl
  | «at» a k => show step _ _ _ _ ⟨trt code (.at a k), code, pos, stack.map trF⟩ = _; rw [trt_at]; rfl
  | load a p k =>
    show step _ _ _ _ ⟨trt code (.load a p k), code, pos, stack.map trF⟩ = _
    rw [trt_load]
    simp only [step, simS]
    cases heap.get? a <;> rfl
  | update a p f k =>
    show step _ _ _ _ ⟨trt code (.update a p f k), code, pos, stack.map trF⟩ = _
    rw [trt_update]
    cases z : (heap.get? a).isSome with
    | true => simp only [step, simS, z, if_true]; rfl
    | false => simp only [step, simS, z, Bool.false_eq_true, if_false]; rfl
  | alloc a k => show step _ _ _ _ ⟨trt code (.alloc a k), code, pos, stack.map trF⟩ = _; rw [trt_alloc]; rfl
  | loadIfAlive a k => show step _ _ _ _ ⟨trt code (.loadIfAlive a k), code, pos, stack.map trF⟩ = _; rw [trt_loadIfAlive]; rfl
  | point a k => show step _ _ _ _ ⟨trt code (.point a k), code, pos, stack.map trF⟩ = _; rw [trt_point]; rfl
  | register a k => show step _ _ _ _ ⟨trt code (.register a k), code, pos, stack.map trF⟩ = _; rw [trt_register]; rfl
  | fresh k => show step _ _ _ _ ⟨trt code (.fresh k), code, pos, stack.map trF⟩ = _; rw [trt_fresh]; rfl
  | ask k => show step _ _ _ _ ⟨trt code (.ask k), code, pos, stack.map trF⟩ = _; rw [trt_ask]; rfl
  | choose a n k =>
    show step _ _ _ _ ⟨trt code (.choose a n k), code, pos, stack.map trF⟩ = _
    rw [trt_choose]
    simp only [step, simS]
    by_cases z : n = 0
    · rw [if_pos z, if_pos z]; rfl
    · rw [if_neg z, if_neg z]; rfl
  | os a l k => show step _ _ _ _ ⟨trt code (.os a l k), code, pos, stack.map trF⟩ = _; rw [trt_os]; rfl
  | call c hd g l k => show step _ _ _ _ ⟨trt code (.call c hd g l k), code, pos, stack.map trF⟩ = _; rw [trt_call]; rfl
  | handled own k =>
    show step _ _ _ _ ⟨trt code (.handled own k), code, pos, stack.map trF⟩ = _
    rw [trt_handled]
    simp only [step, trF_split]
    cases own with
    | false => simp [simP, simT, trF_top]
    | true => cases splitAtGen stack <;> simp [simP, simT, trF_top]
  | genState g k =>
    show step _ _ _ _ ⟨trt code (.genState g k), code, pos, stack.map trF⟩ = _
    rw [trt_genState]
    simp only [step, simS, Array.getElem?_map]
    cases hg : gens[g]? with
    | none => rfl
    | some x => cases x with
      | suspended k' l c p fs cl => simp [simG, simP, simT, simS, ← trF_wheres fs]
      | _ => rfl
  | stack k =>
    show step _ _ _ _ ⟨trt code (.stack k), code, pos, stack.map trF⟩ = _
    rw [trt_stack]
    simp only [step, trF_wheres]
    rfl
  | newGen c k =>
    show step _ _ _ _ ⟨trt code (.newGen c k), code, pos, stack.map trF⟩ = _
    rw [trt_newGen]
    simp only [step, simS, simP, simT, Array.map_push, Array.size_map]
    rfl
  | resume g r l k =>
    show step _ _ _ _ ⟨trt code (.resume g r l k), code, pos, stack.map trF⟩ = _
    rw [trt_resume]
    simp only [step, simS, Array.getElem?_map]
    cases hg : gens[g]? with
    | none => rfl
    | some x => cases x with
      | fresh c =>
        cases r with
        | throw x => simp only [simP, simT, simS, Array.map_setIfInBounds, simG, Option.map_some]
        | send v => cases v <;> first | rfl | (simp only [simP, simT, simS, Array.map_setIfInBounds, simG, Option.map_some, trF, List.map_cons]; rfl)
      | suspended k' l c p fs cl => simp only [simP, simT, simS, Array.map_setIfInBounds, simG, Option.map_some, trF, List.map_cons, List.map_append]
      | _ => rfl
  | yield v g l k =>
    have hg : g = false ∧ ∀ x, splitAtGen stack = some x → x.1.any Frame.guarded = false := by
      have h0 : g = true → (isYf code).isSome = false := fun e => by subst e; exact h
      cases g with
      | true =>
        have h0 := h0 rfl
        have hn : isYf code = none := by cases q : isYf code with
          | none => rfl
          | some _ => rw [q] at h0; cases h0
        have : (simT ⟨.yield v true l k, code, pos, stack⟩).calm = false := by
          unfold simT
          rw [trt_no hn]
          simp [Thread.calm, Thread.yieldsInsideHandler]
        rw [this] at hc; cases hc
      | false =>
        refine ⟨rfl, fun x hx => ?_⟩
        obtain ⟨a, b, r⟩ := x
        unfold simT at hc
        simp only [trt_yield] at hc
        have hx' : splitAtGen (stack.map trF) = some (a.map trF, (b.1, fun r => trt b.2.2.1 (b.2.1 r), b.2.2.1, b.2.2.2), r.map trF) := by rw [trF_split, hx]; rfl
        cases q : a.any Frame.guarded with
        | false => rfl
        | true =>
          rw [Thread.calm_eq, Thread.loud_yield _ _ _ _ _ _ hx', trF_any, q] at hc
          simp at hc
    obtain ⟨rfl, hf⟩ := hg
    show step _ _ _ _ ⟨trt code (.yield v false l k), code, pos, stack.map trF⟩ = _
    rw [trt_yield]
    simp only [step, simS, trF_split]
    cases hx : splitAtGen stack with
    | none => rfl
    | some x =>
      obtain ⟨a, ⟨g, kk, c, p⟩, r⟩ := x
      have := hf _ hx
      simp only [Option.map_some, trF_any, simP, simT, simS, Array.map_setIfInBounds, simG, this, Bool.or_false, Bool.false_and]
      unfold lvs
      cases isYf code <;> rfl
  | fork c k => show step _ _ _ _ ⟨trt code (.fork c k), code, pos, stack.map trF⟩ = _; rw [trt_fork]; rfl
  | thread k => show step _ _ _ _ ⟨trt code (.thread k), code, pos, stack.map trF⟩ = _; rw [trt_thread]; rfl
  | await a f d l k => show step _ _ _ _ ⟨trt code (.await a f d l k), code, pos, stack.map trF⟩ = _; rw [trt_await]; rfl
theorem real_calm {t : Thread} (h : offY t = false) (hc : (simT t).calm = true) : t.calm = true := by
  obtain ⟨cur, code, pos, stack⟩ := t
  cases cur with
  | yield v g l k =>
    cases g with
    | true =>
      have hn : isYf code = none := by
        have h : (isYf code).isSome = false := h
        cases q : isYf code with
        | none => rfl
        | some _ => rw [q] at h; cases h
      unfold simT at hc
      rw [trt_no hn] at hc
      simp [Thread.calm, Thread.yieldsInsideHandler] at hc
    | false =>
      unfold simT at hc
      simp only [trt_yield] at hc
      cases hx : splitAtGen stack with
      | none => simp [Thread.calm, Thread.yieldsInsideHandler, Thread.atCollectorCode, hx]
      | some x =>
        obtain ⟨a, b, r⟩ := x
        have hx' : splitAtGen (stack.map trF) = some (a.map trF, (b.1, fun r => trt b.2.2.1 (b.2.1 r), b.2.2.1, b.2.2.2), r.map trF) := by rw [trF_split, hx]; rfl
        rw [Thread.calm_eq, Thread.loud_yield _ _ _ _ _ _ hx', trF_any] at hc
        rw [Thread.calm_eq, Thread.loud_yield _ _ _ _ _ _ hx]
        exact hc
  | pure x => unfold simT at hc; simp only [trt_pure] at hc; exact hc
  | raise x => unfold simT at hc; simp only [trt_raise] at hc; exact hc
  | fork c k => unfold simT at hc; simp only [trt_fork] at hc; exact hc
  | await a f d l k => unfold simT at hc; simp only [trt_await] at hc; exact hc
  | register a k => unfold simT at hc; simp only [trt_register] at hc; exact hc
  | _ => rfl
theorem isYf_code {c : Code} {a : Addr} (h : isYf c = some a) : ∃ rest kw, c = .builtin "proto.yield_from" ⟨.ref a :: rest, kw⟩ := by
  unfold isYf at h
  split at h
  · rename_i id a' rest kw
    by_cases z : id = "proto.yield_from"
    · rw [if_pos z] at h
      cases h
      exact ⟨rest, kw, by rw [z]⟩
    · rw [if_neg z] at h; cases h
  · cases h
section
variable {den : Code → Sem PySem.Fin}
theorem sstep_to {s : Shared} {t : Thread} {X : Step} (hm : ∀ pr, (Config.single s t).moves pr = [.run 0]) (hr : s.heap.life.registered = []) (hrun : (Config.single s t).run den P w 0 = X.lift) : sstep den P w (.single s t) = X.lift := by
  have h1 : (Config.single s t).collect? w.params = none := by
    show (if (!s.watching) = true then none else _) = none
    rw [if_pos (by simp [Shared.watching, hr])]
  have h2 : (Config.single s t).collectable = [] := by
    show (if (!s.watching) = true then [] else _) = []
    rw [if_pos (by simp [Shared.watching, hr])]
  have hp : (Config.single s t).pick w = .ok (.run 0, .single s t) := by
    simp only [Config.pick, h1, h2, Config.pickThread, hm]
    cases w.params.lifetimes <;> rfl
  simp only [sstep, hp, Config.move, hrun]
theorem run_to {s : Shared} {t : Thread} {X : Step} (h1 : match t.cur with | .thread _ | .fork .. | .await .. => False | _ => True) (h2 : t.finalizes = false) (hl : ∀ others, lifeStep den P w others s t = X) : (Config.single s t).run den P w 0 = X.lift := by
  obtain ⟨cur, code, pos, stack⟩ := t
  have h3 := hl []
  cases cur <;> first
    | exact h1.elim
    | (cases X <;> simp [Config.run, Config.single, others_single, h2, h3, Step.lift])
end
end
end SG
namespace SG
open PySem L2
/-- what yields from a generator, yields from a generator -/
def YfOk (s : Shared) : Prop := ∀ k l c p fs cl, GenState.suspended k l c p fs cl ∈ s.gens → ∀ a, isYf c = some a → l ≠ [] → ∃ o, s.heap.get? a = some o ∧ o.genNumber?.isSome = true
section
variable {P : Program} {w : World}
theorem shows_no {s : Shared} {a : Addr} {o : Obj} {fs : List Frame} {c : Code} (hr : s.heap.life.registered = []) (hc : isYf c = some a) (hf : fs.any Frame.guarded = false) (ho : s.heap.get? a = some o) (hg : o.genNumber?.isSome = true) : closingShows s fs c true = false := by
  obtain ⟨rest, kw, rfl⟩ := isYf_code hc
  obtain ⟨n, hn⟩ := Option.isSome_iff_exists.mp hg
  show (fs.any Frame.guarded || (true && delegateShows s (.ref a))) = false
  have : delegateShows s (.ref a) = false := by
    unfold delegateShows
    simp only [ho, hn, hr, List.contains_nil]
  rw [hf, this]; rfl
theorem left_forget {s : Shared} (hr : s.heap.life.registered = []) (all : Bool) (hl : leftWithCleanup (simS s).gens = false) (hy : YfOk (simS s)) : leftWithCleanup (forgetSuspended all s).gens = false := by
  have hl : leftWithCleanup (s.gens.map simG) = false := hl
  simp only [leftWithCleanup, Array.any_map, Array.any_eq_false'] at hl
  simp only [leftWithCleanup, forgetSuspended, Array.any_map, Array.any_eq_false']
  intro x hx
  cases x with
  | suspended k l c p fs cl =>
    cases cl with
    | false => exact fun z => by cases z
    | true =>
      have h1 := hl _ hx
      have h1 : ¬ (true && ((isYf c).isNone || fs.any Frame.guarded)) = true := h1
      rw [Bool.true_and, Bool.or_eq_true, not_or] at h1
      obtain ⟨h2, h3⟩ := h1
      have h3 : fs.any Frame.guarded = false := by simpa using h3
      cases q : isYf c with
      | none => rw [q] at h2; exact absurd rfl h2
      | some a =>
        have hm : simG (.suspended k l c p fs true) ∈ (simS s).gens := Array.mem_map.mpr ⟨_, hx, rfl⟩
        have hm : GenState.suspended (fun r => trt c (k r)) (match isYf c with | some _ => if true = true then [.none] else [] | none => l) c p (fs.map trF) (true && ((isYf c).isNone || fs.any Frame.guarded)) ∈ (simS s).gens := hm
        obtain ⟨o, ho, hg⟩ := hy _ _ _ _ _ _ hm a q (by rw [q]; exact fun z => by cases z)
        have ho : s.heap.get? a = some o := ho
        have := shows_no (s := s) hr q h3 ho hg
        simp [this]
  | _ => exact fun z => by cases z
theorem sim_halts : ∀ (n : Nat) (s : Shared) (t : Thread) (s' : Shared) (r : Result), s.asleep → (∀ k s1 t1, runN (Mz P w).den P w k (simS s) (simT t) = .running s1 t1 → t1.calm = true) →
    runN (Mz P w).den P w n (simS s) (simT t) = .halted (outcomeOf r) s' → YfOk s' →
    ∃ m s'', schedN (denote table) P w m (.single s t) = .halted (outcomeOf r) s'' ∧ s''.heap = s'.heap ∧ s''.os = s'.os := by
  intro n
  induction n using Nat.strongRecOn with
  | ind n ih =>
    intro s t s' r hz hcalm h hy
    cases n with
    | zero => cases h
    | succ n =>
      have hc0 := hcalm 0 _ _ rfl
      cases ho : offY t with
      | true =>
        obtain ⟨cur, code, pos, stack⟩ := t
        cases cur with
        | yield v g l k =>
          cases g with
          | false => cases ho
          | true =>
            have ho : (isYf code).isSome = true := ho
            obtain ⟨a, ha⟩ := Option.isSome_iff_exists.mp ho
            have e0 : simT ⟨.yield v true l k, code, pos, stack⟩ = ⟨.load a none fun o => if o.genNumber?.isSome = true then .yield v false [.none] (fun x => ug a (k x)) else .unsupported "", code, pos, stack.map trF⟩ := by
              unfold simT trt
              simp only [ha]
              rfl
            have etr : ∀ x, ug a (k x) = trt code (k x) := fun x => by unfold trt; rw [ha]
            rw [e0] at h hcalm
            have hh : (simS s).heap = s.heap := rfl
            cases hg : s.heap.get? a with
            | none =>
              have e1 : step (Mz P w).den P w (simS s) ⟨.load a none fun o => if o.genNumber?.isSome = true then .yield v false [.none] (fun x => ug a (k x)) else .unsupported "", code, pos, stack.map trF⟩ = .halt (.stuck (if a < s.heap.objs.size then "load: the object has been freed" else "load: no object at this address")) (simS s) := by
                simp only [step, hh, hg]
                try rfl
              simp only [runN, e1] at h
              injection h with h1 _
              cases r <;> cases h1
            | some o =>
              have e1 : step (Mz P w).den P w (simS s) ⟨.load a none fun o => if o.genNumber?.isSome = true then .yield v false [.none] (fun x => ug a (k x)) else .unsupported "", code, pos, stack.map trF⟩ = .go (simS s) ⟨if o.genNumber?.isSome = true then .yield v false [.none] (fun x => ug a (k x)) else .unsupported "", code, pos, stack.map trF⟩ := by
                simp only [step, hh, hg]
                try rfl
              simp only [runN, e1] at h
              by_cases gn : o.genNumber?.isSome = true
              · rw [if_pos gn] at h e1
                have hc1 := hcalm 1 _ _ (show runN _ _ _ (0 + 1) _ _ = _ by simp only [runN, e1]; rfl)
                cases n with
                | zero => cases h
                | succ n =>
                  cases hx : splitAtGen stack with
                  | none =>
                    have hx' : splitAtGen (stack.map trF) = none := by rw [trF_split, hx]; rfl
                    have e2 : step (Mz P w).den P w (simS s) ⟨.yield v false [.none] (fun x => ug a (k x)), code, pos, stack.map trF⟩ = .halt (.stuck "yield outside a generator") (simS s) := by
                      simp only [step, hx']
                      try rfl
                    simp only [runN, e2] at h
                    injection h with h1 _
                    cases r <;> cases h1
                  | some x =>
                    obtain ⟨fr, ⟨g, kk, c', p'⟩, rest⟩ := x
                    have hx' : splitAtGen (stack.map trF) = some (fr.map trF, (g, fun r => trt c' (kk r), c', p'), rest.map trF) := by rw [trF_split, hx]; rfl
                    have hfr : fr.any Frame.guarded = false := by
                      rw [Thread.calm_eq, Thread.loud_yield _ _ _ _ _ _ hx', trF_any] at hc1
                      cases q : fr.any Frame.guarded with
                      | false => rfl
                      | true => rw [q] at hc1; simp at hc1
                    have real : step (denote table) P w s ⟨.yield v true l k, code, pos, stack⟩ = .go { s with gens := s.gens.setIfInBounds g (.suspended k l code pos fr true) } ⟨kk (.yielded v), c', p', rest⟩ := by
                      simp only [step, hx, Bool.true_or]
                    have ghost : step (Mz P w).den P w (simS s) ⟨.yield v false [.none] (fun x => ug a (k x)), code, pos, stack.map trF⟩ = .go (simS { s with gens := s.gens.setIfInBounds g (.suspended k l code pos fr true) }) (simT ⟨kk (.yielded v), c', p', rest⟩) := by
                      simp only [step, hx', Bool.false_or, trF_any, hfr, simS, simT, Array.map_setIfInBounds, simG, ha, if_true, Option.isNone_some, Bool.and_false, etr]
                    simp only [runN, ghost] at h
                    have hsp : ∀ others, lifeStep (denote table) P w others s ⟨.yield v true l k, code, pos, stack⟩ = step (denote table) P w s ⟨.yield v true l k, code, pos, stack⟩ := by
                      intro others
                      have sh := shows_no (s := s) hz.1 ha hfr hg gn
                      have s1 : Thread.special ⟨.yield v true l k, code, pos, stack⟩ = true := by simp [Thread.special, Thread.yieldsInsideHandler]
                      have s2 : Thread.atItsEnd ⟨.yield v true l k, code, pos, stack⟩ = false := rfl
                      have s3 : collectorTurn? w.params others s ⟨.yield v true l k, code, pos, stack⟩ = none := rfl
                      simp only [lifeStep, s1, if_true, s3, hx, sh, s2, Bool.false_eq_true, if_false, Bool.false_and, stepCounting, hz.2]
                    have ss := sstep_to (P := P) (w := w) (den := denote table) (s := s) (t := ⟨.yield v true l k, code, pos, stack⟩) (X := step (denote table) P w s ⟨.yield v true l k, code, pos, stack⟩)
                      (fun pr => by simp [Config.moves, Config.single, movesFrom, Thread.moves, Thread.atomic, Thread.rests, Thread.tells]) hz.1 (run_to trivial rfl hsp)
                    rw [real] at ss
                    obtain ⟨m, s'', h1, h2⟩ := ih n (by omega) { s with gens := s.gens.setIfInBounds g (.suspended k l code pos fr true) } ⟨kk (.yielded v), c', p', rest⟩ s' r hz
                      (fun k' s1 t1 hk => hcalm (k' + 2) s1 t1 (by simp only [runN, e1, ghost]; exact hk)) h hy
                    exact ⟨m + 1, s'', by simp only [schedN, ss]; exact h1, h2⟩
              · rw [if_neg gn] at h
                cases n with
                | zero => cases h
                | succ n =>
                  simp only [runN, step] at h
                  injection h with h1 _
                  cases r <;> cases h1
        | _ => cases ho
      | false =>
        have hrc := real_calm ho hc0
        cases he : t.atItsEnd with
        | false =>
          have e := sim_step (P := P) (w := w) (s := s) ho he hc0
          rcases sstep_single (denote table) P w s t hrc hz with q | q
          · cases hs : step (denote table) P w s t with
            | go s1 t1 =>
              rw [hs] at e q
              have e : step (Mz P w).den P w (simS s) (simT t) = .go (simS s1) (simT t1) := e
              simp only [runN, e] at h
              obtain ⟨m, s'', h1, h2⟩ := ih n (Nat.lt_succ_self n) s1 t1 s' r (Shared.asleep_of_life (step_life (denote table) P w s s1 t t1 hs) hz) (fun k' s2 t2 hk => hcalm (k' + 1) s2 t2 (by simp only [runN, e]; exact hk)) h hy
              exact ⟨m + 1, s'', by simp only [schedN, q]; exact h1, h2⟩
            | halt o s1 =>
              rw [hs] at e q
              have e : step (Mz P w).den P w (simS s) (simT t) = .halt o (simS s1) := e
              simp only [runN, e] at h
              injection h with h1 h2
              subst h1 h2
              exact ⟨1, s1, by simp only [schedN, q]; rfl, rfl, rfl⟩
          · rw [q] at e
            have e : step (Mz P w).den P w (simS s) (simT t) = .halt _ (simS s) := e
            simp only [runN, e] at h
            injection h with h1 h2
            cases r <;> cases h1
        | true =>
          have hl : ∀ others, lifeStep (denote table) P w others s t = step (denote table) P w (forgetSuspended (w.params.lifetimes == .anyTime) s) t := fun others => by
            rw [lifeStep_calm0 (denote table) P w others s t hrc hz, if_pos he]
          have fin : ∀ (o : Outcome), step (Mz P w).den P w (simS s) (simT t) = finish o (simS s) → step (denote table) P w (forgetSuspended (w.params.lifetimes == .anyTime) s) t = finish o (forgetSuspended (w.params.lifetimes == .anyTime) s) → t.finalizes = false → (match t.cur with | .thread _ | .fork .. | .await .. => False | _ => True) →
              ∃ m s'', schedN (denote table) P w m (.single s t) = .halted (outcomeOf r) s'' ∧ s''.heap = s'.heap ∧ s''.os = s'.os := by
            intro o e1 e2 f1 f2
            cases hlc : leftWithCleanup (simS s).gens with
            | true =>
              have e1 : step (Mz P w).den P w (simS s) (simT t) = .halt (.unsupported "lifetime:generator-with-cleanup-left-suspended") (simS s) := by rw [e1]; simp only [finish, hlc, if_true]
              simp only [runN, e1] at h
              injection h with h1 _
              cases r <;> cases h1
            | false =>
              have e1 : step (Mz P w).den P w (simS s) (simT t) = .halt o (simS s) := by rw [e1]; simp only [finish, hlc, Bool.false_eq_true, if_false]
              simp only [runN, e1] at h
              injection h with h1 h2
              subst h1 h2
              have lf := left_forget hz.1 (w.params.lifetimes == .anyTime) hlc hy
              have ss := sstep_to (P := P) (w := w) (den := denote table) (s := s) (t := t) (moves_single · s t hrc) hz.1 (run_to f2 f1 hl)
              rw [e2] at ss
              refine ⟨1, forgetSuspended (w.params.lifetimes == .anyTime) s, ?_, rfl, rfl⟩
              simp only [schedN, ss, finish, lf, Bool.false_eq_true, if_false, Step.lift]
          obtain ⟨cur, code, pos, stack⟩ := t
          cases cur with
          | pure x =>
            cases x with
            | done f =>
              cases stack with
              | nil =>
                refine fin (.done f) ?_ rfl rfl trivial
                show step _ _ _ _ ⟨trt code (.pure (.done f)), code, pos, []⟩ = _
                rw [trt_pure]; rfl
              | cons _ _ => cases he
            | again c => cases he
          | raise x =>
            cases stack with
            | nil =>
              refine fin (.uncaught x) ?_ rfl rfl trivial
              show step _ _ _ _ ⟨trt code (.raise x), code, pos, []⟩ = _
              rw [trt_raise]; rfl
            | cons _ _ => cases he
          | finish x =>
            exfalso
            have e1 : step (Mz P w).den P w (simS s) (simT ⟨.finish x, code, pos, stack⟩) = finish (.ended x) (simS s) := by
              show step _ _ _ _ ⟨trt code (.finish x), code, pos, stack.map trF⟩ = _
              rw [trt_finish]; rfl
            simp only [runN, e1, finish] at h
            cases hlc : leftWithCleanup (simS s).gens with
            | true =>
              simp only [hlc, if_true] at h
              injection h with h1 _
              cases r <;> cases h1
            | false =>
              simp only [hlc, Bool.false_eq_true, if_false] at h
              injection h with h1 _
              cases r <;> cases h1
          | _ => cases he
end
end SG
namespace SG
open PySem PySem.W PySem.Calls PyProof.Rows
/-! ### the head over the other machine -/
theorem YfOk.forget {s s' : Shared} (e : s'.forget = s.forget) (h : YfOk s) : YfOk s' := by
  have hg : s'.gens.map GenState.forget = s.gens.map GenState.forget := congrArg Shared.gens e
  have hh : s'.forget.heap = s.forget.heap := congrArg Shared.heap e
  have hh : s'.heap = s.heap := hh
  intro k l c p fs cl hm a ha hl
  have h1 : GenState.forget (.suspended k l c p fs cl) ∈ s'.gens.map GenState.forget := Array.mem_map.mpr ⟨_, hm, rfl⟩
  rw [hg] at h1
  obtain ⟨y, hy, e1⟩ := Array.mem_map.mp h1
  cases y with
  | suspended k2 l2 c2 p2 fs2 cl2 =>
    have e1 : GenState.suspended k2 l2 c2 p2 (forgetAll fs2) cl2 = .suspended k l c p (forgetAll fs) cl := e1
    injection e1 with _ e2 e3
    subst e2 e3
    rw [hh]
    exact h _ _ _ _ _ _ hy a ha hl
  | _ => cases e1
theorem ends_z {P : Program} {w : World} {t : Sem PySem.Fin} {s : Shared} {R : Result → Shared → Prop} (hz : s.asleep) (hg : s.gens = #[])
    (h : wpAny (Mz P w) callerA t (fun fin u => ∃ f, fin = .done f ∧ R (.ok f) u ∧ AllBare u.gens ∧ YfOk u) (fun e u => R (.error e) u ∧ AllBare u.gens ∧ YfOk u) s) :
    ∃ n r s' u, schedN (denote table) P w n (.single s ⟨t, .builtin "claim.caller" {}, default, []⟩) = .halted (outcomeOf r) s' ∧ s'.heap = u.heap ∧ s'.os = u.os ∧ s'.heap.life = s.heap.life ∧ R r u := by
  have h1 := wp_of_wpAny_done (M := Mz P w) (R := fun r u => (R r u ∧ YfOk u) ∧ leftWithCleanup u.gens = false) caller_in (wpAny_mono h (fun fin u ⟨f, e, a, b, c⟩ => ⟨f, e, ⟨a, c⟩, leftWithCleanup_false_of_bare b⟩) fun e u ⟨a, b, c⟩ => ⟨⟨a, c⟩, leftWithCleanup_false_of_bare b⟩) default
  obtain ⟨n, r, u, hn, hR, hy⟩ := (wp_iff_halts (M := Mz P w) t (fun r u => R r u ∧ YfOk u) default s).mp h1
  obtain ⟨u2, hr, hf, hcalm⟩ := runNI_real (Mz P w).den P w hn (outcomeOf_ends r)
  have e1 : simS s = s := by
    clear h h1 hn hr hcalm
    obtain ⟨hp, gn, dr, tk, os⟩ := s
    have hg : gn = #[] := hg
    subst hg
    simp [simS]
  have e2 : simT ⟨t, .builtin "claim.caller" {}, default, []⟩ = ⟨t, .builtin "claim.caller" {}, default, []⟩ := rfl
  obtain ⟨m, s2, h2, h3, h4⟩ := sim_halts (P := P) (w := w) n s ⟨t, .builtin "claim.caller" {}, default, []⟩ u2 r hz (by rw [e1, e2]; exact hcalm) (by rw [e1, e2]; exact hr) (hy.forget hf)
  obtain ⟨eh, _, _, eo, _⟩ := Shared.forget_eq hf
  refine ⟨m, r, s2, u, h2, h3.trans eh, h4.trans eo, ?_, hR⟩
  rw [h3]
  exact runN_life _ _ _ hr
theorem call_from_z {c : ClaimW} {tree : List Value → Sem PySem.Fin} {w : World} {s : Shared} {free : Addr → Prop} {gens : Prop} {kept : Heap → Prop} (hz : s.asleep) (hgens : s.gens = #[])
    (hspec : ∀ args, c.pre args = true → WData.layableAll args = true → ∀ ord : List DictEntry → List DictEntry, (∀ l, (ord l).Perm l) → ∃ vs s1, layAllW c.records (classAt s.heap) w.params ord args s = some (vs, s1) ∧
      wpAny (Mz c.prog w) callerA (tree vs) (fun fin u => ∃ f, fin = .done f ∧ (c.Ends s args vs s1 (.ok f) u ∧ u.os = s.os ∧ kept u.heap) ∧ AllBare u.gens ∧ YfOk u) (fun e u => (c.Ends s args vs s1 (.error e) u ∧ u.os = s.os ∧ kept u.heap) ∧ AllBare u.gens ∧ YfOk u) s1) :
    c.CallFrom (fun vs => ⟨tree vs, .builtin "claim.caller" {}, default, []⟩) w free gens kept s := by
  intro args hpre hlay ord hord
  obtain ⟨vs, s1, hl, hc⟩ := hspec args hpre hlay ord hord
  have al := layAllW_rest _ _ _ hl
  obtain ⟨n, r, s2, u, hs, e1, e2, e3, hcase, hos, hkp⟩ := ends_z (P := c.prog) (w := w) (t := tree vs) (s := s1) (R := fun r u => c.Ends s args vs s1 r u ∧ u.os = s.os ∧ kept u.heap) (Shared.asleep_of_life al.2.2.2 hz) (al.1.trans hgens) hc
  have hcase := hcase.congr e1
  have hlife : s2.heap.life = s.heap.life := e3.trans al.2.2.2
  refine ⟨vs, s1, hl, n, _, s2, hs, ?_, (fun _ i x hx => by rw [hgens] at hx; simp at hx), by rw [e1]; exact hkp, by rw [hlife], Shared.rest_eq (e2.trans hos)⟩
  rcases hcase with ⟨v, rfl, d1, d2, d3, d4, d5⟩ | ⟨e, ob, cls, rfl, d1, d2, d3, d4, d5⟩
  · exact .inl ⟨v, rfl, d1, d2, d3, fun b o y _ => d4 b o y, d5⟩
  · exact .inr ⟨e, ob, cls, rfl, d1, d2, d3, d4, fun b o y _ => d5 b o y⟩
abbrev WalkZ (q : Program) (loose : List Str) (XP : (Str → Option Value) → Heap → Prop) (YP : World → Heap → Prop) (r : RowW) (d : DefRec) (kwd : List (Str × Expr)) : Prop :=
  ∀ (w : World) (t₀ t₁ : Shared) (mg mb : Str → Option Value), Ground q loose r.records XP w t₀ mg mb t₁.heap → YP w t₁.heap → ∀ (fa : Addr) (fo : Obj) (pm cd doc dV kV : Value), t₁.heap.get? fa = some fo →
    fo.data = .func { docDef d.name d.params d.body d.scope pm cd doc with defaults := dV, kwdefaults := kV } → t₁.heap.CodeRec cd d.name → Dflts mg t₁.heap d.params kwd dV kV → mg d.name = some (.ref fa) → t₁.gens = #[] →
    ∀ (args : List WData) (us : List Value) (al : List Addr), r.claim.pre args = true → WData.layableAll args = true → ReadsAllW r.records (classAt t₀.heap) t₁.heap us args al → WellAll w.params t₁.heap us args → (∀ b ∈ al, (b == sysModules) = false) →
      wpAny (Mz r.prog w) callerA (PySem.call (.ref fa) us) (fun v u => GoodWG r.claim (classAt t₀.heap) (ExcName.means t₀.heap) args t₁ (.ok (.ret v)) u ∧ YfOk u)
        (fun x u => GoodWG r.claim (classAt t₀.heap) (ExcName.means t₀.heap) args t₁ (.error x) u ∧ YfOk u) t₁
end SG
namespace SG
open PySem PySem.Spec PyProof.Rows L2
theorem yf_of_mk {s : Shared} (h : MkS [] s) : YfOk s := fun k l c p fs cl hm a ha hl => by
  obtain ⟨i, hi, e⟩ := Array.mem_iff_getElem.mp hm
  obtain ⟨oa, z, _⟩ := h i k l c p fs cl (by rw [Array.getElem?_eq_getElem hi, e]) a ha hl
  cases z
/-- a law's def is called, behind the top -/
theorem law_z {P : Program} {w : World} {K : PySem.W.Frag} {mg mb : Str → Option Value} {k : Nat} {fa a : Addr} {fd : FuncData} {x : Str} {sp : Sp} {t : Shared} {us : List Value} {ns : List Int} (KX : K.In t.heap) (n1 : t.heap.Ns mainGlobals mg) (n2 : t.heap.Ns builtinsNs mb)
    (n3 : ∀ x : Str, x ≠ "__name__" → mb x = bootBuiltins x) (lim : t.heap.NoLimit) (g0 : t.gens = #[]) (ha : t.heap.get? a = some { cls := .type "list", data := .seq us.toArray }) (hi : IntsAre us ns) (hz : ns.length ≤ sizeLine) (hr : Room k callerA)
    (F : ∀ base : Heap, K.In base → base.Ns mainGlobals mg → FnOkz P w K mg base k fa fd [x] sp) (hb : ∀ (s : Shared) (u : Value), BindsTo s fd ⟨[u], []⟩ [(x, u)])
    (hs : ∀ H : Hp, Only H → SqL K H a (ns.map V.int) → sp [.ref a] H (fun v _ => v = .bl true) fun _ _ _ => False) :
    codeAny (Mz P w) callerA (.call (.ref fa) ⟨[.ref a], []⟩) (fun r u => r = .ok (.ret (.bool true)) ∧ OldK t.heap u.heap ∧ u.os = t.os ∧ AllBare u.gens ∧ YfOk u) t := by
  have rv := vals_ints hi
  have lv := hi.length
  have m0 : MkS [] t := fun i k l c p fs cl e => by rw [g0] at e; simp at e
  have main : ∀ H : Hp, Only H → SqL K H a (ns.map V.int) → HOk P w H t.heap → (∀ b, H b ≠ none → b = a) → (H a ≠ none → K.lookup a = none) →
      codeAny (Mz P w) callerA (.call (.ref fa) ⟨[.ref a], []⟩) (fun r u => r = .ok (.ret (.bool true)) ∧ OldK t.heap u.heap ∧ u.os = t.os ∧ AllBare u.gens ∧ YfOk u) t := by
    intro H hO hS hok hA hK
    have only : ∀ {b : Addr}, H b ≠ none → b = a := fun {b} q => hA b q
    have nd : ∀ {b : Addr} {o : Obj} {es : Array DictEntry} {ep : Nat}, t.heap.get? b = some o → o.data = .dict es ep → H b = none := fun {b o es ep} e d => by
      by_cases q : H b = none
      · exact q
      · have e2 := only q
        rw [e2, ha] at e
        cases e
        cases d
    have nsb : ∀ {b : Addr} {m : Str → Option Value}, t.heap.Ns b m → (hidT t.heap H).Ns b m := fun {b m} ⟨o, es, ep, e, d, r⟩ => ⟨o, es, ep, hidT_get e (nd e d), d, r⟩
    have kb : K.In (hidT t.heap H) := fun b o e => hidT_get (KX b o e) (by
      by_cases q : H b = none
      · exact q
      · have e2 := only q
        rw [e2] at q e
        rw [hK q] at e
        cases e)
    obtain ⟨mc, c1, c2⟩ := lim
    have md : Mod K mg (hidT t.heap H) := ⟨kb, nsb n1, ⟨mb, nsb n2, n3⟩, mc, nsb c1, c2⟩
    have e0 : Env0 P w K mg (hidT t.heap H) callerA [] t H := ⟨rfl, md, fun b o e => of_hidT e, Nat.le_of_eq (hidT_size _ _), trivial, (fun b hb => by cases hb), hok, .of_eq g0⟩
    refine codeAny_mono ((F _ kb (nsb n1)).run [] callerA [] t H ⟨[.ref a], []⟩ [.ref a] [.ref a] _ _ m0 hr e0 (hb t (.ref a)) (.cons rfl .nil) (hs H hO hS)) fun r u h => ?_
    cases r with
    | error e => exact h.elim
    | ok fl =>
      cases fl with
      | ret y =>
        obtain ⟨m', v, H', os, bare, un, hok', r', q⟩ := h
        have q : v = .bl true := q
        subst q
        have r' : y = Value.bool true := r'
        subst r'
        refine ⟨rfl, OldK.of_keep fun b o e => ?_, os, bare, yf_of_mk m'⟩
        rcases hO b with z | ⟨ob, xs, z⟩
        · exact un.keep b o e z (by intro z; cases z) (by simp)
        · have e1 := (hok b _ z).1
          have e2 := (hok' b _ (un.frzs b ob _ z)).1
          rw [e] at e1
          cases e1
          exact e2
      | next => exact h.elim
      | brk => exact h.elim
      | cont => exact h.elim
  cases hk : K.lookup a with
  | some o =>
    have e := KX a o hk
    rw [ha] at e
    cases e
    refine main (fun _ => none) (fun _ => .inl rfl) (.inr ⟨_, us.toArray, _, hk, rfl, rfl, rfl, by rw [List.size_toArray, lv]; exact hz, by simpa using rv⟩) (fun b u z => by cases z) (fun b z => absurd rfl z) fun z => absurd rfl z
  | none =>
    have at_a : ∀ b, b ≠ a → (fun b => if b = a then some (HO.frz { cls := .type "list", data := .seq us.toArray } (.lst (ns.map V.int))) else none : Hp) b = none := fun b h => if_neg h
    refine main (fun b => if b = a then some (.frz { cls := .type "list", data := .seq us.toArray } (.lst (ns.map V.int))) else none) (fun b => ?_) (.inl (.inr ⟨{ cls := .type "list", data := .seq us.toArray }, if_pos rfl⟩)) (fun b u z => ?_) (fun b z => ?_) fun _ => hk
    · by_cases h : b = a
      · exact .inr ⟨_, _, if_pos h⟩
      · exact .inl (at_a b h)
    · by_cases h : b = a
      · subst h
        have z := (if_pos rfl).symm.trans z
        cases z
        exact ⟨ha, by rw [List.length_map]; exact hz, us, _, rv, ha⟩
      · have z := (at_a b h).symm.trans z
        cases z
    · by_cases h : b = a
      · exact h
      · exact absurd (at_a b h) z
theorem walk_z {l : PySem.W.OpenLaw} {n k : Nat} {q : Program} {loose : List Str} {XP : (Str → Option Value) → Heap → Prop} {YP : World → Heap → Prop} {d : DefRec} {K : Params → PySem.W.Frag} {sp : World → Sp} {x : Str} (hn : l.most = some n) (hz : n ≤ sizeLine) (hdf : d.params.defaults = []) (hr : Room k callerA)
    (hY : ∀ (w : World) (h : Heap), YP w h → (K w.params).In h)
    (F : ∀ (w : World) (mg : Str → Option Value) (fa : Addr) (h : Heap), (K w.params).In h → h.Ns mainGlobals mg → mg d.name = some (.ref fa) → ∃ fd : FuncData, (∀ (s : Shared) (u : Value), BindsTo s fd ⟨[u], []⟩ [(x, u)]) ∧
      ∀ base : Heap, (K w.params).In base → base.Ns mainGlobals mg → FnOkz l.prog w (K w.params) mg base k fa fd [x] (sp w))
    (hs : ∀ (w : World) (H : Hp) (a : Addr) (ns : List Int), ns.length ≤ n → Only H → SqL (K w.params) H a (ns.map V.int) → sp w [.ref a] H (fun v _ => v = .bl true) fun _ _ _ => False) : WalkZ q loose XP YP l.row.toRowW d [] := by
  intro w t0 t1 mg mb G Y fa o pm cd doc dV kV ho hd hcd hD hmg hg args us al pre lay rd wl lo
  obtain ⟨a, vs, ns, rfl, rfl, obj, hin, len⟩ := Att.script_of hn pre wl
  have KX := hY w _ Y
  obtain ⟨fd, hb, hF⟩ := F w mg fa _ KX G.T.g hmg
  refine wpAny_call (codeAny_mono (law_z KX G.T.g G.T.b G.T.builtins G.T.nolimit hg obj hin (Nat.le_trans len hz) hr hF hb fun H hO hS => hs w H a ns len hO hS) fun r u h => ?_)
  obtain ⟨rfl, h2, h3, h4, h5⟩ := h
  exact ⟨⟨.inl ⟨.bool true, .bool true, [], rfl, fun _ => rfl, .bool true, Att.post_true l _, fun _ => ⟨List.Pairwise.nil, fun _ hm => (nomatch hm)⟩⟩, h2, h3, h4⟩, h5⟩
end SG
namespace SG
open PySem L2
def top (i : Nat) : Stmt := PySem.Challenge.pw_salvor_k05_images.main.body.getD i (.Pass ⟨0, 0, 0, 0⟩)
abbrev s_choices : Stmt := top 1
abbrev s_image : Stmt := top 2
abbrev s_rows : Stmt := top 3
abbrev s_distinct : Stmt := top 4
abbrev s_leftovers : Stmt := top 5
abbrev s_combined : Stmt := top 6
abbrev s_first_choices : Stmt := top 7
abbrev s_outcomes : Stmt := top 8
abbrev s__law_state : Stmt := top 10
abbrev s__law_draw : Stmt := top 11
abbrev s__law_left : Stmt := top 12
abbrev s__law_all : Stmt := top 13
abbrev s_law : Stmt := top 14
end SG
namespace SG
open PySem L2
/-- where each def stands -/
structure Defs where
  fchoices : Addr
  dchoices : FuncData
  fimage : Addr
  dimage : FuncData
  frows : Addr
  drows : FuncData
  fdistinct : Addr
  ddistinct : FuncData
  fleftovers : Addr
  dleftovers : FuncData
  fcombined : Addr
  dcombined : FuncData
  ffirst_choices : Addr
  dfirst_choices : FuncData
  foutcomes : Addr
  doutcomes : FuncData
  f_law_state : Addr
  d_law_state : FuncData
  f_law_draw : Addr
  d_law_draw : FuncData
  f_law_left : Addr
  d_law_left : FuncData
  f_law_all : Addr
  d_law_all : FuncData
  flaw : Addr
  dlaw : FuncData
/-- what the top has written -/
structure Ok (P : Program) (K : PySem.W.Frag) (mg : Str → Option Value) (D : Defs) : Prop where
  Fchoices : Fun K "choices" "choices" s_choices D.fchoices D.dchoices
  bchoices : Binds K D.dchoices ["snapshot", "sector", "tears"] []
  mchoices : mg "choices" = some (.ref D.fchoices)
  Fimage : Fun K "image" "image" s_image D.fimage D.dimage
  bimage : Binds K D.dimage ["snapshot", "tears", "row"] []
  mimage : mg "image" = some (.ref D.fimage)
  Frows : Fun K "rows" "rows" s_rows D.frows D.drows
  brows : Binds K D.drows ["snapshot", "tears"] []
  mrows : mg "rows" = some (.ref D.frows)
  Fdistinct : Fun K "distinct" "distinct" s_distinct D.fdistinct D.ddistinct
  bdistinct : Binds K D.ddistinct ["snapshot", "tears"] []
  mdistinct : mg "distinct" = some (.ref D.fdistinct)
  Fleftovers : Fun K "leftovers" "leftovers" s_leftovers D.fleftovers D.dleftovers
  bleftovers : Binds K D.dleftovers ["snapshot", "tears"] []
  mleftovers : mg "leftovers" = some (.ref D.fleftovers)
  Fcombined : Fun K "combined" "combined" s_combined D.fcombined D.dcombined
  bcombined : Binds K D.dcombined ["firsts"] []
  mcombined : mg "combined" = some (.ref D.fcombined)
  Ffirst_choices : Fun K "first_choices" "first_choices" s_first_choices D.ffirst_choices D.dfirst_choices
  bfirst_choices : Binds K D.dfirst_choices ["snapshot", "sector", "tears"] []
  mfirst_choices : mg "first_choices" = some (.ref D.ffirst_choices)
  Foutcomes : Fun K "outcomes" "outcomes" s_outcomes D.foutcomes D.doutcomes
  boutcomes : Binds K D.doutcomes ["snapshot", "sector", "tears"] []
  moutcomes : mg "outcomes" = some (.ref D.foutcomes)
  F_law_state : Fun K "_law_state" "_law_state" s__law_state D.f_law_state D.d_law_state
  b_law_state : Binds K D.d_law_state ["script"] []
  m_law_state : mg "_law_state" = some (.ref D.f_law_state)
  F_law_draw : Fun K "_law_draw" "_law_draw" s__law_draw D.f_law_draw D.d_law_draw
  b_law_draw : Binds K D.d_law_draw ["state", "many"] []
  m_law_draw : mg "_law_draw" = some (.ref D.f_law_draw)
  F_law_left : Fun K "_law_left" "_law_left" s__law_left D.f_law_left D.d_law_left
  b_law_left : Binds K D.d_law_left ["snapshot", "sector", "tears"] []
  m_law_left : mg "_law_left" = some (.ref D.f_law_left)
  F_law_all : Fun K "_law_all" "_law_all" s__law_all D.f_law_all D.d_law_all
  b_law_all : Binds K D.d_law_all ["snapshot", "tears"] []
  m_law_all : mg "_law_all" = some (.ref D.f_law_all)
  Flaw : Fun K "law" "law" s_law D.flaw D.dlaw
  blaw : Binds K D.dlaw ["script"] []
  mlaw : mg "law" = some (.ref D.flaw)
  zlen : mg "len" = none
  zint : mg "int" = none
  zabs : mg "abs" = none
  zrange : mg "range" = none
  zlist : mg "list" = none
  ztuple : mg "tuple" = none
  zenumerate : mg "enumerate" = none
  zzip : mg "zip" = none
end SG
namespace SG
open PySem L2
/-! ### the draws -/
def But (H H' : Hp) (st c : Addr) : Prop := ∀ b o, H b = some o → b ≠ st → b ≠ c → H' b = some o
theorem But.refl (H : Hp) (st c : Addr) : But H H st c := fun _ _ e _ _ => e
structure StAt (H : Hp) (st c : Addr) : Prop where
  top : ∃ m : Int, H st = some (.lst [.ref c, .int m])
  cells : ∃ ns : List Int, ns.length ≤ 63 ∧ H c = some (.lst (ns.map V.int))
theorem StAt.ne {H : Hp} {st c : Addr} (S : StAt H st c) : st ≠ c := by
  obtain ⟨⟨m, h1⟩, ⟨ns, _, h2⟩⟩ := S
  refine ne_of h1 h2 fun e => ?_
  injection e with e
  cases ns with
  | nil => cases e
  | cons a r => cases e
/-- the heap without the state's two lists -/
def Off (H : Hp) (st c : Addr) : Hp := fun b => if b = st ∨ b = c then none else H b
theorem off_get {H : Hp} {st c b : Addr} {o : HO} (h : Off H st c b = some o) : H b = some o ∧ b ≠ st ∧ b ≠ c := by
  unfold Off at h
  split at h
  · cases h
  · rename_i z
    exact ⟨h, fun e => z (.inl e), fun e => z (.inr e)⟩
theorem off_of {H : Hp} {st c b : Addr} {o : HO} (h : H b = some o) (h1 : b ≠ st) (h2 : b ≠ c) : Off H st c b = some o := by
  unfold Off
  rw [if_neg (fun z => z.elim h1 h2)]
  exact h
theorem off_same (H : Hp) (st c : Addr) : Same (Off H st c) H := fun b o e => (off_get e).1
theorem off_none {H : Hp} {st c b : Addr} (h : H b = none) : Off H st c b = none := by
  unfold Off
  split
  · rfl
  · exact h
theorem off_upd {H : Hp} {st c d : Addr} {o : HO} (h1 : d ≠ st) (h2 : d ≠ c) : Off (upd H d o) st c = upd (Off H st c) d o := by
  funext b
  unfold Off
  by_cases z : b = st ∨ b = c
  · rw [if_pos z]
    have : b ≠ d := fun e => z.elim (fun y => h1 (e.symm.trans y)) (fun y => h2 (e.symm.trans y))
    rw [upd_ne this, if_pos z]
  · rw [if_neg z]
    by_cases y : b = d
    · rw [y, upd_same, upd_same]
    · rw [upd_ne y, upd_ne y, if_neg z]
theorem StAt.free {H : Hp} {st c p : Addr} (S : StAt H st c) (h : H p = none) : p ≠ st ∧ p ≠ c := by
  obtain ⟨⟨m, h1⟩, ⟨ns, _, h2⟩⟩ := S
  exact ⟨fun e => (by rw [e, h1] at h; cases h), fun e => (by rw [e, h2] at h; cases h)⟩
theorem stAt_upd {H : Hp} {st c d : Addr} {o : HO} (S : StAt H st c) (h1 : d ≠ st) (h2 : d ≠ c) : StAt (upd H d o) st c := by
  obtain ⟨⟨m, e1⟩, ⟨ns, l, e2⟩⟩ := S
  exact ⟨⟨m, by rw [upd_ne h1.symm]; exact e1⟩, ⟨ns, l, by rw [upd_ne h2.symm]; exact e2⟩⟩
/-- what was there beside the state stands; the state stands -/
structure Go (st c : Addr) (H H' : Hp) : Prop where
  same : Same (Off H st c) (Off H' st c)
  st : StAt H' st c
theorem Go.refl {st c : Addr} {H : Hp} (S : StAt H st c) : Go st c H H := ⟨Same.refl _, S⟩
theorem Go.trans {st c : Addr} {H H1 H2 : Hp} (a : Go st c H H1) (b : Go st c H1 H2) : Go st c H H2 := ⟨a.same.trans b.same, b.st⟩
theorem Go.new {st c p : Addr} {H : Hp} (S : StAt H st c) (np : H p = none) (o : HO) : Go st c H (upd H p o) ∧ Off (upd H p o) st c p = some o := by
  obtain ⟨h1, h2⟩ := S.free np
  have e := off_upd (H := H) (o := o) h1 h2
  refine ⟨⟨?_, stAt_upd S h1 h2⟩, by rw [e]; exact upd_same⟩
  rw [e]
  exact new_same (off_none np) o
theorem Go.of_same {st c : Addr} {H H' : Hp} (S : StAt H st c) (s : Same H H') : Go st c H H' := by
  refine ⟨fun b o e => ?_, ?_⟩
  · obtain ⟨e1, h1, h2⟩ := off_get e
    exact off_of (s _ _ e1) h1 h2
  · obtain ⟨⟨m, e1⟩, ⟨ns, l, e2⟩⟩ := S
    exact ⟨⟨m, s _ _ e1⟩, ⟨ns, l, s _ _ e2⟩⟩
def spState (K : PySem.W.Frag) : Sp := fun vs H Q _ => ∃ (a : Addr) (ns : List Int), vs = [.ref a] ∧ SqL K H a (ns.map V.int) ∧ ns.length ≤ 63 ∧ ∀ (st c : Addr) (H' : Hp), Same H H' → H st = none → H c = none → StAt H' st c → Q (.ref st) H'
def spDraw : Sp := fun vs H Q _ => ∃ (st c : Addr) (many : Int), vs = [.ref st, .int many] ∧ StAt H st c ∧ 0 < many ∧ many < 1000000 ∧
  ∀ (r : Int) (H' : Hp), 0 ≤ r → r < many → Go st c H H' → Q (.int r) H'
section
variable {P : Program} {w : World} {K : PySem.W.Frag} {mg : Str → Option Value} {base : Heap} {D : Defs}
theorem sc_state : FnScope ["script", "seed", "cell"] ["script"] (defScope s__law_state) := ⟨rfl, rfl, rfl, by decide +kernel, rfl, by decide +kernel, by decide +kernel⟩
theorem ok_state (O : Ok P K mg D) : FnOk P w K mg base CX0 1 D.f_law_state D.d_law_state ["script"] (spState K) := by
  refine O.F_law_state.ok sc_state (fun vs H Q E h => ?_) (fun cdv A outer s H vs Q E hr h => ?_)
  · obtain ⟨a, ns, rfl, _⟩ := h
    rfl
  obtain ⟨a, ns, rfl, hS, hlen, q⟩ := h
  refine ⟨_, pss_cons (ps_set (i := 1) sc_state.nd rfl (Or.inl rfl) pe_int)
    (pss_cons (ps_for PassesOwn.never rfl (pi_list (pv 0)) (pg_name (i := 2) sc_state.nd rfl (Or.inl rfl))
      (pss_one (ps_set (i := 1) sc_state.nd rfl (Or.inl rfl) (pe_op op_mod (pe_callTy call_int1 (by rfl) O.zint PyProof.Rows.boot_int (pa_cons (pe_op op_add (pe_op op_mul (pv 1) pe_int) (pv 2)) pa_nil)) pe_int))))
    (pss_one (ps_ret (pe_lst (pa_cons
      (pe_lc (own := [("cell", 2)]) (g := gName 2) (by rfl) sc_state.nd (pi_list (pv 0)) (blkOk_by (own := [("cell", 2)]) (N := ["script", "seed", "cell"]) (sc := defScope s__law_state) (by decide +kernel))
        (fun _ _ _ _ _ => pg_name (i := 2) sc_state.nd rfl (Or.inl rfl)) (fun _ _ _ _ _ => pts_nil) (fun _ _ _ _ _ => pe_callB call_abs (by rfl) O.zabs PyProof.Rows.boot_abs (pa_cons (pv 2) pa_nil)))
      (pa_cons (pe_op op_add (pv 1) pe_int) pa_nil)))))), ?_⟩
  refine ⟨_, rfl, a, rfl, ⟨_, hS⟩, for_list (K := K) (a := a) (xs := ns.map V.int) (fun i σ H2 => ∃ (z : Int) (v : Option V), σ = [some (.ref a), some (.int z), v] ∧ H2 = H ∧ 0 ≤ z ∧ z < 1000003)
      ⟨7, none, rfl, rfl, by decide, by decide⟩ (fun i σ H2 _ ⟨_, _, _, e, _⟩ => by rw [e]; exact hS) ?_ ?_⟩
  · rintro i y σ H2 hi ⟨z, v, rfl, rfl, hz, hz'⟩
    obtain ⟨n, rfl⟩ : ∃ n, y = V.int n := by
      obtain ⟨n, _, e⟩ := List.mem_map.mp (List.mem_of_getElem? hi)
      exact ⟨n, e.symm⟩
    refine ⟨_, rfl, _, _, rfl, rfl, .inl ⟨by omega, by omega⟩, _, rfl, _, _, rfl, rfl, .inl ⟨_, rfl, _, _, rfl, rfl, (by show (0 : Int) < 1000003; decide), ?_⟩⟩
    exact ⟨_, _, rfl, rfl, Int.emod_nonneg _ (by decide), Int.emod_lt_of_pos _ (by decide)⟩
  · rintro σ H2 ⟨z, v, rfl, rfl, hz, hz'⟩
    refine ⟨_, rfl, a, rfl, ⟨_, hS⟩, fun c nc => lc_list (K := K) (a := a) (xs := ns.map V.int) (fun i H3 => ∃ ms : List Int, ms.length = i ∧ H3 = upd H2 c (.lst (ms.map V.int)))
      ⟨[], rfl, rfl⟩ (fun i H3 _ ⟨ms, _, e⟩ => by rw [e]; exact (new_same nc _).seq hS) ?_ ?_⟩
    · rintro i y H3 hi ⟨ms, hm, rfl⟩
      obtain ⟨n, rfl⟩ : ∃ n, y = V.int n := by
        obtain ⟨n, _, e⟩ := List.mem_map.mp (List.mem_of_getElem? hi)
        exact ⟨n, e.symm⟩
      have hil : i < ns.length := by
        have := (List.getElem?_eq_some_iff.mp hi).1
        rwa [List.length_map] at this
      refine ⟨rfl, yes (iteT ?_)⟩
      refine ⟨_, rfl, _, rfl, ms.map V.int, upd_same, (by rw [List.length_map]; exact small1000 (by omega)), ms ++ [if n < 0 then -n else n], by rw [List.length_append, hm]; rfl, ?_⟩
      rw [upd_upd, List.map_append]
      rfl
    · rintro H3 ⟨ms, hm, rfl⟩
      refine ⟨_, rfl, _, _, rfl, rfl, (by show 2 ≤ sizeLine; decide), fun st nst => ?_⟩
      have hcs : st ≠ c := fun e => by rw [e, upd_same] at nst; cases nst
      refine q st c _ ((new_same nc _).trans (new_same nst _)) ((new_same nc _).free nst) nc ⟨⟨z + 1, upd_same⟩, ⟨ms, ?_, ?_⟩⟩
      · rw [hm, List.length_map]; exact hlen
      · rw [upd_ne hcs.symm]; exact upd_same
theorem But.go {st c : Addr} {H H' : Hp} (b : But H H' st c) (S : StAt H' st c) : Go st c H H' := ⟨fun x o e => by
  obtain ⟨e1, h1, h2⟩ := off_get e
  exact off_of (b _ _ e1 h1 h2) h1 h2, S⟩
theorem sc_draw : FnScope ["state", "many", "cells", "value", "mixed"] ["state", "many"] (defScope s__law_draw) := ⟨rfl, rfl, rfl, by decide +kernel, rfl, by decide +kernel, by decide +kernel⟩
theorem ok_draw (O : Ok P K mg D) : FnOk P w K mg base CX0 1 D.f_law_draw D.d_law_draw ["state", "many"] spDraw := by
  refine O.F_law_draw.ok sc_draw (fun vs H Q E h => ?_) (fun cdv A outer s H vs Q E hr h => ?_)
  · obtain ⟨st, c, many, rfl, _⟩ := h
    rfl
  obtain ⟨st, c, many, rfl, S, hm0, hm1, q⟩ := h
  have hne := S.ne
  refine ⟨_, pss_cons (ps_set (i := 2) sc_draw.nd rfl (Or.inl rfl) (pe_ix ix_list (pv 0) pe_int (fun _ _ => rfl)))
    (pss_cons (ps_while PassesOwn.never (PW.pt (pw_and (pt_cmpR op_gt (pe_callB call_len_seq (by rfl) O.zlen PySem.boot_len (pa_cons (pv 2) pa_nil)) pe_int (nomark _)) (pw_and1 (pt_cmpR op_eq (pe_ix ix_list (pv 2) pe_int (fun _ _ => rfl)) pe_int (nomark _)))))
      (pss_one (ps_expr (pe_bm PySem.F.plainAttrs_list PySem.F.slot_list_pop PySem.F.type_list_pop mt_popAt (pv 2) (pa_cons pe_int pa_nil)))))
    (pss_cons (ps_if (pt_cmpR op_gt (pe_callB call_len_seq (by rfl) O.zlen PySem.boot_len (pa_cons (pv 2) pa_nil)) pe_int (nomark _))
      (pss_cons (ps_set (i := 3) sc_draw.nd rfl (Or.inl rfl) (pe_ix ix_list (pv 2) pe_int (fun _ _ => rfl)))
      (pss_cons (ps_asg (pe_op op_fdiv (pv 3) (pv 1)) (pg_sub (pv 2) pe_int set_list))
      (pss_one (ps_ret (pe_op op_mod (pe_callTy call_int1 (by rfl) O.zint PyProof.Rows.boot_int (pa_cons (pv 3) pa_nil)) (pv 1)))))) pss_nil)
    (pss_cons (ps_set (i := 4) sc_draw.nd rfl (Or.inl rfl) (pe_op op_mod (pe_callTy call_int1 (by rfl) O.zint PyProof.Rows.boot_int (pa_cons (pe_op op_add (pe_op op_mul (pe_ix ix_list (pv 0) pe_int (fun _ _ => rfl)) pe_int) pe_int) pa_nil)) pe_int))
    (pss_cons (ps_asg (pv 4) (pg_sub (pv 0) pe_int set_list))
    (pss_one (ps_ret (pe_op op_mod (pe_callTy call_int1 (by rfl) O.zint PyProof.Rows.boot_int (pa_cons (pe_op op_fdiv (pv 4) pe_int) pa_nil)) (pv 1)))))))), ?_⟩
  obtain ⟨⟨m, hst⟩, ⟨ns0, hl0, hc0⟩⟩ := S
  refine ⟨_, rfl, st, _, _, _, rfl, rfl, SqL.of hst, at_of (j := 0) rfl rfl, ?_⟩
  refine ⟨fun n σ H2 => ∃ ns : List Int, n = ns.length ∧ ns.length ≤ 63 ∧ σ = [some (.ref st), some (.int many), some (.ref c), none, none] ∧ H2 st = some (.lst [.ref c, .int m]) ∧ H2 c = some (.lst (ns.map V.int)) ∧ But H H2 st c,
    ⟨_, ns0, rfl, hl0, rfl, hst, hc0, But.refl _ _ _⟩, ?_⟩
  rintro n σ H2 ⟨ns, rfl, hl, rfl, hst2, hc2, hb⟩
  refine ⟨_, rfl, c, _, rfl, .inl (SqL.of hc2), _, _, rfl, rfl, _, rfl, ?_⟩
  cases ns with
  | nil =>
    refine iteF (iteF ?_)
    refine ⟨_, rfl, c, _, rfl, .inl (SqL.of hc2), _, _, rfl, rfl, _, rfl, iteF ?_⟩
    refine ⟨_, rfl, st, _, _, _, rfl, rfl, SqL.of hst2, at_of (j := 1) rfl rfl, _, _, rfl, rfl, .inr ⟨by decide, by decide⟩, _, _, rfl, rfl, .inl ⟨_, rfl, _, _, rfl, rfl, (by show (0 : Int) < 2147483647; decide), ?_⟩⟩
    refine ⟨_, rfl, _, rfl, st, _, _, 1, rfl, rfl, hst2, rfl, ?_⟩
    refine ⟨_, rfl, _, _, rfl, rfl, ⟨by decide, by decide⟩, .inl ⟨_, rfl, _, rfl, _, _, rfl, rfl, hm0, ?_⟩⟩
    refine q _ _ (Int.emod_nonneg _ (by omega)) (Int.emod_lt_of_pos _ hm0) (But.go ?_ ⟨⟨_, upd_same⟩, ⟨[], by decide, ?_⟩⟩)
    · intro b o e h1 h2
      rw [upd_ne h1]
      exact hb b o e h1 h2
    · rw [upd_ne hne.symm]; exact hc2
  | cons n ns =>
    have hpos : decide ((0 : Int) < (((n :: ns).map V.int).length : Nat)) = true := decide_eq_true (by rw [List.length_map, List.length_cons]; omega)
    rw [hpos]
    refine iteT ⟨_, rfl, c, _, _, _, rfl, rfl, SqL.of hc2, at_of (j := 0) rfl rfl, rfl, _, rfl, ite2 (fun z => ?_) (fun z => ?_)⟩
    · refine ⟨fun σ' H' => ∃ m', m' < (n :: ns).length ∧ ∃ ns' : List Int, m' = ns'.length ∧ ns'.length ≤ 63 ∧ σ' = [some (.ref st), some (.int many), some (.ref c), none, none] ∧ H' st = some (.lst [.ref c, .int m]) ∧ H' c = some (.lst (ns'.map V.int)) ∧ But H H' st c,
        fun σ' H' h => h, ?_⟩
      refine ⟨_, rfl, .inl ⟨rfl, _, SqL.of hc2⟩, c, _, _, 0, _, rfl, rfl, hc2, by decide, by decide, by simp [seqIndex?], rfl, ?_⟩
      refine ⟨ns.length, by simp, ns, rfl, by simp at hl; omega, rfl, ?_, ?_, ?_⟩
      · rw [upd_ne hne]; exact hst2
      · exact upd_same
      · intro b o e h1 h2
        rw [upd_ne h2]
        exact hb b o e h1 h2
    · refine ⟨_, rfl, c, _, rfl, .inl (SqL.of hc2), _, _, rfl, rfl, _, rfl, ?_⟩
      rw [hpos]
      refine iteT ⟨_, rfl, c, _, _, _, rfl, rfl, SqL.of hc2, at_of (j := 0) rfl rfl, ?_⟩
      refine ⟨_, rfl, _, rfl, _, _, rfl, rfl, ⟨hm0, by omega⟩, _, rfl, c, _, _, 0, rfl, rfl, hc2, by simp [ixN], ?_⟩
      refine ⟨_, rfl, .inl ⟨_, rfl, _, rfl, _, _, rfl, rfl, hm0, ?_⟩⟩
      refine q _ _ (Int.emod_nonneg _ (by omega)) (Int.emod_lt_of_pos _ hm0) (But.go ?_ ⟨⟨m, ?_⟩, ⟨(n / many) :: ns, by simpa using hl, ?_⟩⟩)
      · intro b o e h1 h2
        rw [upd_ne h2]
        exact hb b o e h1 h2
      · rw [upd_ne hne]; exact hst2
      · exact upd_same
end
end SG
namespace SG
open PySem L2
theorem chg_go {st c : Addr} {H H' : Hp} (S : StAt H st c) (g : Same (Off H st c) (Off H' st c)) (S' : StAt H' st c) : Chg [st, c] [st, c] H H' where
  keep := fun a o e n => (off_get (g a o (off_of e (fun z => n (by rw [z]; exact .head _)) fun z => n (by rw [z]; exact .tail _ (.head _))))).1
  tups := fun a xs e => by
    obtain ⟨⟨m, h1⟩, ⟨ns, _, h2⟩⟩ := S
    exact (off_get (g a _ (off_of e (ne_of e h1 (by intro z; cases z)) (ne_of e h2 (by intro z; cases z))))).1
  dom := fun a e => by
    cases z : H a with
    | none => rfl
    | some o =>
      obtain ⟨h1, h2⟩ := S'.free e
      have := (off_get (g a o (off_of z h1 h2))).1
      rw [e] at this
      cases this
  new := fun a h => .inl h
theorem Go.chg {st c : Addr} {H H' : Hp} (g : Go st c H H') (S : StAt H st c) : Chg [st, c] [st, c] H H' := chg_go S g.same g.st
theorem StAt.keep {st c : Addr} {H H' : Hp} {fp fp' : List Addr} (S : StAt H st c) (g : Chg fp fp' H H') (h1 : st ∉ fp) (h2 : c ∉ fp) : StAt H' st c := by
  obtain ⟨⟨m, e1⟩, ⟨ns, l, e2⟩⟩ := S
  exact ⟨⟨m, g.keep _ _ e1 h1⟩, ⟨ns, l, g.keep _ _ e2 h2⟩⟩
/-- a list made by a comprehension, its items data that stand -/
theorem lc_chg {α : Type} {fp : List Addr} {d : Addr} {H0 : Hp} {n : Nat} {J : It} {X : Nat → V → Prop} {Qd : Hp → Prop} {B : V → Hp → (Hp → Prop) → Prop} (R : Hp → α → V → Prop) (Iv : Nat → Hp → Prop) (Pz : Nat → α → Prop)
    (Rm : ∀ H H' x v, (∀ b o, H b = some o → b ∉ fp → b ≠ d → H' b = some o) → Tups H H' → R H x v → R H' x v)
    (nd : H0 d = none) (nf : d ∉ fp) (hn : n ≤ 100000) (hI : ∀ i H o, Iv i H → Chg fp fp H0 H → Iv i (upd H d o)) (h0 : Iv 0 H0)
    (hstop : ∀ H, Chg fp fp H0 H → Iv n H → J.stop n H) (hgo : ∀ i H, i < n → Chg fp fp H0 H → Iv i H → J.go i H) (hy : ∀ i H x H', i < n → Chg fp fp H0 H → Iv i H → J.yld i H x H' → H' = H ∧ X i x)
    (hs : ∀ i x H acc, i < n → X i x → Chg fp fp H0 H → Iv i H → H d = some (.lst acc) → ∀ Nx : Hp → Prop, (∀ y H4 (z : α), Chg fp fp H H4 → Iv (i + 1) H4 → R H4 z y → Pz i z → ∃ acc, H4 d = some (.lst acc) ∧ acc.length < sizeLine ∧ Nx (upd H4 d (.lst (acc ++ [y])))) → B x H Nx)
    (hd : ∀ H zs acc, Chg fp fp H0 H → Iv n H → H d = some (.lst acc) → Each R H zs acc → zs.length = n → (∀ i z, zs[i]? = some z → Pz i z) → Qd H) :
    ∃ W : Nat → Nat → Hp → Prop, (∃ m, W 0 m (upd H0 d (.lst []))) ∧ ∀ i m H, W i m H →
      (J.stop i H ∧ Qd H) ∨ (J.go i H ∧ ∃ Nx : Hp → Prop, (∀ H', Nx H' → ∃ m', m' < m ∧ W (i + 1) m' H') ∧ ∀ x H', J.yld i H x H' → B x H' Nx) := by
  let Pv : Nat → Hp → Prop := fun i H => ∃ acc zs, H d = some (.lst acc) ∧ Chg fp fp H0 H ∧ Iv i H ∧ Each R H zs acc ∧ zs.length = i ∧ ∀ j z, zs[j]? = some z → Pz j z
  refine ⟨fun i m H => m + i = n ∧ Pv i H, ⟨n, rfl, [], [], upd_same, Chg.mk0 nd _, hI 0 H0 _ h0 (Chg.refl _ _), trivial, rfl, fun j z hz => by cases hz⟩, ?_⟩
  rintro i m H ⟨em, acc, zs, hacc, g, iv, he, hl, hz⟩
  cases m with
  | zero =>
    have ei : i = n := by omega
    subst ei
    exact .inl ⟨hstop H g iv, hd H zs acc g iv hacc he hl hz⟩
  | succ m =>
    have hi : i < n := by omega
    refine .inr ⟨hgo i H hi g iv, Pv (i + 1), fun H' p => ⟨m, Nat.lt_succ_self _, by omega, p⟩, fun x H' y => ?_⟩
    obtain ⟨rfl, hx⟩ := hy i H x H' hi g iv y
    refine hs i x H' acc hi hx g iv hacc (Pv (i + 1)) fun y H4 z g4 iv4 r zz => ?_
    have h4 := g4.keep d _ hacc nf
    have hal := Each.len he
    have g5 : Chg fp fp H0 (upd H4 d (.lst (acc ++ [y]))) := by
      have g04 := g.trans g4
      refine ⟨fun b o e nb => ?_, fun b xs e => ?_, fun b e => ?_, fun _ h => .inl h⟩
      · rw [upd_ne (ne_of_none e nd)]; exact g04.keep b o e nb
      · rw [upd_ne (ne_of_none e nd)]; exact g04.tups b xs e
      · by_cases zb : b = d
        · rw [zb]; exact nd
        · rw [upd_ne zb] at e; exact g04.dom b e
    have tu : Tups H4 (upd H4 d (.lst (acc ++ [y]))) := fun b xs e => by
      rw [upd_ne fun zb => ?_]
      · exact e
      · rw [zb, h4] at e; cases e
    refine ⟨acc, h4, small5' hn (by omega), acc ++ [y], zs ++ [z], upd_same, g5, hI _ _ _ iv4 (g.trans g4), ?_, by rw [List.length_append, hl]; rfl, ?_⟩
    · refine Each.app (Each.mono (fun a v h => Rm _ _ _ _ (fun b o e nb nbd => by rw [upd_ne nbd]; exact g4.keep b o e nb) (fun b xs e => tu b xs (g4.tups b xs e)) h) he) ⟨Rm _ _ _ _ (fun b o e nb nbd => by rw [upd_ne nbd]; exact e) tu r, trivial⟩
    · intro j a ha
      by_cases hj : j < zs.length
      · rw [List.getElem?_append_left hj] at ha
        exact hz j a ha
      · rw [List.getElem?_append_right (by omega)] at ha
        have : j - zs.length = 0 := by
          cases q : j - zs.length with
          | zero => rfl
          | succ k => rw [q] at ha; cases ha
        rw [this] at ha
        cases ha
        have ej : j = i := by omega
        rw [ej]; exact zz
where small5' {n k : Nat} (h : n ≤ 100000) (h' : k < n) : k < sizeLine := small5 (by omega)
theorem ft_rm {fp : List Addr} {d : Addr} : ∀ (H H' : Hp) (x : PyData) (v : V), (∀ b o, H b = some o → b ∉ fp → b ≠ d → H' b = some o) → Tups H H' → Ft H x v → Ft H' x v := fun _ _ _ _ _ t h => h.mono t
theorem each_ft {H : Hp} : ∀ {zs : List PyData} {acc : List V}, Each Ft H zs acc → FtAll H zs acc
  | [], [], _ => .nil
  | _ :: _, _ :: _, ⟨h1, h2⟩ => .cons h1 (each_ft h2)
  | [], _ :: _, h => h.elim
  | _ :: _, [], h => h.elim
theorem ft_each {H : Hp} : ∀ {zs : List PyData} {acc : List V}, FtAll H zs acc → Each Ft H zs acc
  | [], [], _ => trivial
  | _ :: _, _ :: _, h => ⟨h.un.1, ft_each h.un.2⟩
  | [], _ :: _, h => h.no1.elim
  | _ :: _, [], h => h.no2.elim
/-- walks that stand: a range, a list, a tuple -/
theorem wk_range {fp : List Addr} {H0 : Hp} {n : Nat} {Iv : Nat → Hp → Prop} : (∀ H, Chg fp fp H0 H → Iv n H → (Itr 0 n).stop n H) ∧ (∀ i H, i < n → Chg fp fp H0 H → Iv i H → (Itr 0 n).go i H) ∧ (∀ i H x H', i < n → Chg fp fp H0 H → Iv i H → (Itr 0 n).yld i H x H' → H' = H ∧ x = V.int (0 + (i : Int))) :=
  ⟨fun H g _ => Nat.le_refl n, fun i H hi g _ => hi, fun i H x H' _ g _ y => y⟩
theorem wk_list {K : PySem.W.Frag} {fp : List Addr} {H0 : Hp} {a : Addr} {xs : List V} {Iv : Nat → Hp → Prop} (ha : ∀ i H, Chg fp fp H0 H → Iv i H → SqL K H a xs) :
    (∀ H, Chg fp fp H0 H → Iv xs.length H → (Itl K a).stop xs.length H) ∧ (∀ i H, i < xs.length → Chg fp fp H0 H → Iv i H → (Itl K a).go i H) ∧ (∀ i H x H', i < xs.length → Chg fp fp H0 H → Iv i H → (Itl K a).yld i H x H' → H' = H ∧ xs[i]? = some x) :=
  ⟨fun H g v => ⟨xs, ha _ H g v, Nat.le_refl _⟩, fun i H hi g v => ⟨xs, xs[i], ha _ H g v, List.getElem?_eq_getElem hi⟩, fun i H x H' _ g v y => ⟨y.1, y.2 xs (ha _ H g v)⟩⟩
theorem wk_tup {K : PySem.W.Frag} {fp : List Addr} {H0 : Hp} {a : Addr} {xs : List V} {Iv : Nat → Hp → Prop} (ha : H0 a = some (.tup xs)) :
    (∀ H, Chg fp fp H0 H → Iv xs.length H → (Itt K a).stop xs.length H) ∧ (∀ i H, i < xs.length → Chg fp fp H0 H → Iv i H → (Itt K a).go i H) ∧ (∀ i H x H', i < xs.length → Chg fp fp H0 H → Iv i H → (Itt K a).yld i H x H' → H' = H ∧ xs[i]? = some x) :=
  ⟨fun H g v => ⟨xs, SqT.of (g.tups _ _ ha), Nat.le_refl _⟩, fun i H hi g v => ⟨xs, xs[i], SqT.of (g.tups _ _ ha), List.getElem?_eq_getElem hi⟩, fun i H x H' _ g v y => ⟨y.1, y.2 xs (SqT.of (g.tups _ _ ha))⟩⟩
end SG
namespace SG
open PySem PySem.Spec PyProof.Rows L2
/-! ### dicts whose keys are nested tuples: the object at d, its keys (their data, their tuples' addresses), its values -/
mutual
def nk : PyData → NestedKey
  | .none => .none
  | .bool b => .num (if b = true then 1 else 0)
  | .int i => .num i
  | .str x => .text x
  | .tuple ds => .tup (nks ds)
  | .list _ => .none
  | .dict _ => .none
def nks : List PyData → List NestedKey
  | [] => []
  | d :: ds => nk d :: nks ds
end
abbrev NRow := PyData × Addr × V
def RowOk (p : NRow) (q : NestedKey × Addr × Value) : Prop := nk p.1 = q.1 ∧ p.2.1 = q.2.1 ∧ RelV p.2.2 q.2.2
def DkP (P : Program) (w : World) (d : Addr) (kvs : List NRow) (h : Heap) : Prop := (d == sysModules) = false ∧ kvs.length ≤ sizeLine ∧ ∃ xs : List (NestedKey × Addr × Value), Paired RowOk kvs xs ∧
  ∃ (o : Obj) (es : Array DictEntry) (ep : Nat), h.get? d = some o ∧ o.ExactDict ∧ o.data = .dict es ep ∧ es.toList = xs.map (entryOfKey (nestedKind P w)) ∧ (xs.map (·.1)).Nodup
def DkN (P : Program) (w : World) (d : Addr) (kvs : List NRow) : HO := .ext (DkP P w d kvs)
def KeysAt (H : Hp) (kvs : List NRow) : Prop := ∀ p ∈ kvs, Ft H p.1 (.ref p.2.1) ∧ (nk p.1).depth ≤ 8
def lkN (kvs : List NRow) (k : NestedKey) : Option V := (kvs.find? fun p => decide (nk p.1 = k)).map (·.2.2)
theorem KeysAt.mono {H H' : Hp} (s : Tups H H') {kvs : List NRow} (h : KeysAt H kvs) : KeysAt H' kvs := fun p hp => ⟨(h p hp).1.mono s, (h p hp).2⟩
theorem KeysAt.add {H : Hp} {kvs : List NRow} {p : NRow} (h : KeysAt H kvs) (h1 : Ft H p.1 (.ref p.2.1)) (h2 : (nk p.1).depth ≤ 8) : KeysAt H (kvs ++ [p]) := fun q hq => by
  rcases List.mem_append.mp hq with z | z
  · exact h q z
  · rw [List.mem_singleton.mp z]; exact ⟨h1, h2⟩
theorem DkP.at' {P : Program} {w : World} {d : Addr} {kvs : List NRow} {h h' : Heap} (x : DkP P w d kvs h) (k : ∀ o, h.get? d = some o → h'.get? d = some o) : DkP P w d kvs h' := by
  obtain ⟨a, b, xs, r, o, es, ep, ho, rest⟩ := x
  exact ⟨a, b, xs, r, o, es, ep, k o ho, rest⟩
theorem dkN_ok {P : Program} {w : World} {H : Hp} {h : Heap} {d : Addr} {kvs : List NRow} (x : DkP P w d kvs h) : ObjOk P w H h d (DkN P w d kvs) := by
  have ⟨_, _, _, _, o, _, _, ho, _⟩ := x
  exact ⟨x, ⟨o, ho⟩, fun h1 h2 p k => p.at' k⟩
section
variable {X : Cx} {pins : List (Addr × Obj)} {σ : L2.St} {H : Hp} {s : Shared}
mutual
theorem ft_nested (I : Inv X pins σ H s) : ∀ (d : PyData) (v : V) (u : Value), Ft H d v → RelV v u → NestedIs s.heap (nk d) u
  | .none, v, u, h, r => by
    unfold Ft at h; subst h; cases r
    exact .none
  | .bool b, v, u, h, r => by
    unfold Ft at h; subst h; cases r
    exact .bool rfl
  | .int i, v, u, h, r => by
    rw [h.int] at r
    obtain ⟨t, rfl⟩ := r
    exact .int i t
  | .str x, v, u, h, r => by
    rw [h.str] at r
    obtain ⟨t, rfl⟩ := r
    exact .text x t
  | .tuple ds, v, u, h, r => by
    obtain ⟨p, xs, rfl, h1, h2⟩ := h.tup
    cases r
    obtain ⟨its, rv, ⟨o, ho, hc, n, hd⟩, _⟩ := I.tuple (SqT.of h1)
    refine .tup ho hc hd ?_
    rw [List.toList_toArray]
    exact ft_nestedAll I ds xs its h2 rv
  | .list _, v, u, h, r => by unfold Ft at h; exact h.elim
  | .dict _, v, u, h, r => by unfold Ft at h; exact h.elim
theorem ft_nestedAll (I : Inv X pins σ H s) : ∀ (ds : List PyData) (vs : List V) (us : List Value), FtAll H ds vs → Vals vs us → NestedAll s.heap (nks ds) us
  | [], [], us, _, r => by cases r; exact .nil
  | d :: ds, v :: vs, us, h, r => by
    cases r with
    | cons r1 r2 => exact .cons (ft_nested I d v _ h.un.1 r1) (ft_nestedAll I ds vs _ h.un.2 r2)
  | [], _ :: _, _, h, _ => h.no1.elim
  | _ :: _, [], _, h, _ => h.no2.elim
end
theorem rows_is (I : Inv X pins σ H s) {kvs : List NRow} {xs : List (NestedKey × Addr × Value)} (r : Paired RowOk kvs xs) : KeysAt H kvs → ∀ x ∈ xs, (nestedKind X.prog X.w).is s.heap x.1 x.2.1 := by
  induction r with
  | nil => intro _ x hx; exact nomatch hx
  | @cons p q ps qs h t ih =>
    intro k x hx
    rcases List.mem_cons.mp hx with e | hx
    · subst e
      obtain ⟨k1, k2⟩ := k p (List.mem_cons_self ..)
      rw [← h.1, ← h.2.1]
      exact ⟨ft_nested I _ _ _ k1 rfl, k2⟩
    · exact ih (fun y hy => k y (List.mem_cons_of_mem _ hy)) x hx
theorem rows_at {kvs : List NRow} {xs : List (NestedKey × Addr × Value)} (r : Paired RowOk kvs xs) (k : NestedKey) : RelO (lkN kvs k) ((atKey xs k).map (·.2)) := by
  induction r with
  | nil => trivial
  | @cons p q ps qs h t ih =>
    unfold lkN atKey at ih ⊢
    rw [List.find?_cons, List.find?_cons, h.1]
    by_cases e : q.1 = k
    · rw [decide_eq_true e]; exact h.2.2
    · rw [decide_eq_false e]; exact ih
theorem dkN_at (I : Inv X pins σ H s) {d : Addr} {kvs : List NRow} (e : Rd H d (DkN X.prog X.w d kvs)) (k : KeysAt H kvs) :
    (d == sysModules) = false ∧ kvs.length ≤ sizeLine ∧ ∃ xs, Paired RowOk kvs xs ∧ s.heap.DictOfH (nestedKind X.prog X.w) d xs := by
  obtain ⟨⟨a, b, xs, r, o, es, ep, h1, h2, h3, h4, h5⟩, _⟩ := (show ObjOk X.prog X.w H s.heap d (DkN X.prog X.w d kvs) from rd_of I.hok e)
  exact ⟨a, b, xs, r, o, es, ep, h1, h2, h3, h4, rows_is I r k, h5⟩
theorem key_at (I : Inv X pins σ H s) {k : PyData} {b : Addr} (h : Ft H k (.ref b)) (h2 : (nk k).depth ≤ 8) : (nestedKind X.prog X.w).is s.heap (nk k) b := ⟨ft_nested I _ _ _ h rfl, h2⟩
end
/-! rules -/
def tDNewN (P : Program) (w : World) : TE := fun _ H Q => ∀ p, H p = none → Q (.ref p) (upd H p (DkN P w p []))
def NIn (P : Program) (w : World) (x y : V) (H : Hp) (o : Option V) : Prop := ∃ a b k kvs, x = .ref a ∧ y = .ref b ∧ Ft H k (.ref b) ∧ (nk k).depth ≤ 8 ∧ H a = some (DkN P w a kvs) ∧ KeysAt H kvs ∧ o = lkN kvs (nk k)
def tNotInN (P : Program) (w : World) (ty td : TE) : TE := fun σ H Q => ty σ H fun y H1 => td σ H1 fun x H2 => ∃ o, NIn P w x y H2 o ∧ Q (.bl (!o.isSome)) H2
def tInN (P : Program) (w : World) (ty td : TE) : TE := fun σ H Q => ty σ H fun y H1 => td σ H1 fun x H2 => ∃ o, NIn P w x y H2 o ∧ Q (.bl o.isSome) H2
def tGetN (P : Program) (w : World) (td ty : TE) : TE := fun σ H Q => td σ H fun x H1 => ty σ H1 fun y H2 => ∃ v, NIn P w x y H2 (some v) ∧ Q v H2
/-- d[y] = v, a new key -/
def NPut (P : Program) (w : World) (x y v : V) (H : Hp) (Q : Hp → Prop) : Prop := ∃ a b k kvs, x = .ref a ∧ y = .ref b ∧ Ft H k (.ref b) ∧ (nk k).depth ≤ 8 ∧ H a = some (DkN P w a kvs) ∧ KeysAt H kvs ∧ kvs.length < sizeLine ∧ lkN kvs (nk k) = none ∧
  Q (upd H a (DkN P w a (kvs ++ [(k, b, v)])))
def sDPutN (P : Program) (w : World) (td ty tv : TE) : TS := fun D σ H => tv σ H fun v H1 => td σ H1 fun x H2 => ty σ H2 fun y H3 => NPut P w x y v H3 (D.nx σ)
def tSetdN (P : Program) (w : World) (td ty tx : TE) : TE := fun σ H Q => td σ H fun x H1 => (∃ a kvs, x = .ref a ∧ H1 a = some (DkN P w a kvs)) ∧ ty σ H1 fun y H2 => tx σ H2 fun v H3 =>
  ∃ a b k kvs, x = .ref a ∧ y = .ref b ∧ Ft H3 k (.ref b) ∧ (nk k).depth ≤ 8 ∧ H3 a = some (DkN P w a kvs) ∧ KeysAt H3 kvs ∧ kvs.length < sizeLine ∧
  (∀ z, lkN kvs (nk k) = some z → Q z H3) ∧ (lkN kvs (nk k) = none → Q v (upd H3 a (DkN P w a (kvs ++ [(k, b, v)]))))
section
variable {X : Cx} {o i e f value : Expr} {td ty tx tv : TE} {pos pos' apos cpos : Pos}
theorem room_in1 {A : Around} (hu : A.units + 64 < cLine) : (nestedKind X.prog X.w).room A.in1 := by
  show A.units + 1 + 8 < cLine
  omega
theorem pe_dnewN : PE X (.Dict [] [] pos) (tDNewN X.prog X.w) := ⟨fun pins s σ H Q I h =>
  wpAny_Dict_empty ⟨.ref s.heap.objs.size, _, I.laid (a := s.heap.objs.size) (o := DkN X.prog X.w s.heap.objs.size []) (t' := s.toks) (fun _ _ q => Heap.get?_push_of_some _ q) (Nat.le_refl _)
    (dkN_ok ⟨beq_eq_false_iff_ne.mpr (Ne.symm (Nat.ne_of_lt I.big)), Nat.zero_le _, [], .nil, _, #[], 0, Heap.get?_push_size _ rfl, ⟨rfl, rfl, rfl⟩, rfl, rfl, List.nodup_nil⟩), rfl, h _ (I.hok.fresh (Nat.le_refl _))⟩⟩
theorem pc_notinN (hu : X.A.units + 64 < cLine) (hi : PE X i ty) (ho : PE X o td) : PC X .NotIn i o (tNotInN X.prog X.w ty td) := by
  refine ⟨fun pins s σ H Q I h => ?_⟩
  refine thn (hi.run pins s σ H _ I h) fun iv s1 ⟨y, H1, I1, ry, q1⟩ => thn (ho.run pins s1 σ H1 _ I1 q1) fun u s2 ⟨x, H2, I2, rx, ov, ⟨a, b, k, kvs, ex, ey, hk, hd, ha, ks, el⟩, q2⟩ => ?_
  subst ex ey
  obtain rfl : u = Value.ref a := rx
  obtain rfl : iv = Value.ref b := ry
  obtain ⟨sm, z, xs, r, dd⟩ := dkN_at I2 (.inl ha) ks
  refine wpAny_notIn_heap (room_in1 hu) (key_at I2 hk hd) sm dd ?_
  have q := (rows_at r (nk k)).isSome_eq
  rw [Option.isSome_map] at q
  rw [← q, ← el]
  exact ⟨.bl (!ov.isSome), H2, I2.tok _, rfl, q2⟩
theorem pc_inN (hu : X.A.units + 64 < cLine) (hi : PE X i ty) (ho : PE X o td) : PC X .In i o (tInN X.prog X.w ty td) := by
  refine ⟨fun pins s σ H Q I h => ?_⟩
  refine thn (hi.run pins s σ H _ I h) fun iv s1 ⟨y, H1, I1, ry, q1⟩ => thn (ho.run pins s1 σ H1 _ I1 q1) fun u s2 ⟨x, H2, I2, rx, ov, ⟨a, b, k, kvs, ex, ey, hk, hd, ha, ks, el⟩, q2⟩ => ?_
  subst ex ey
  obtain rfl : u = Value.ref a := rx
  obtain rfl : iv = Value.ref b := ry
  obtain ⟨sm, z, xs, r, dd⟩ := dkN_at I2 (.inl ha) ks
  refine wpAny_in_heap (room_in1 hu) (key_at I2 hk hd) sm dd ?_
  have q := (rows_at r (nk k)).isSome_eq
  rw [Option.isSome_map] at q
  rw [← q, ← el]
  exact ⟨.bl ov.isSome, H2, I2.tok _, rfl, q2⟩
theorem put_ok {pins : List (Addr × Obj)} {σ : L2.St} {H : Hp} {s : Shared} {a b : Addr} {k : PyData} {kvs : List NRow} {v : V} {r : Value} {h' : Heap} {tk : Nat} {xs : List (NestedKey × Addr × Value)} (I : Inv X pins σ H s) (ha : H a = some (DkN X.prog X.w a kvs)) (sm : (a == sysModules) = false)
    (hl : kvs.length < sizeLine) (rr : Paired RowOk kvs xs) (rv : RelV v r) (hn : atKey xs (nk k) = none) (dd : h'.DictOfH (nestedKind X.prog X.w) a (storedH xs (nk k) b r)) (hs : Heap.SameBut a s.heap h') :
    Inv X pins σ (upd H a (DkN X.prog X.w a (kvs ++ [(k, b, v)]))) { s with heap := h', toks := tk } := by
  obtain ⟨ob, es, ep, h1, h2, h3, h4, _, h5⟩ := dd
  rw [storedH_new hn] at h4 h5
  refine d_write I (by rw [ha]; exact True.intro) hs ⟨ob, h1⟩ (dkN_ok ⟨sm, by rw [List.length_append]; exact hl, _, Paired.snoc rr ⟨rfl, rfl, rv⟩, ob, es, ep, h1, h2, h3, h4, h5⟩)
theorem ps_dputN (hu : X.A.units + 64 < cLine) (ho : PE X o td) (hi : PE X i ty) (hv : PE X value tv) (hs : swapsWith value (some (.Subscript o i pos')) pos.line X.env = pure false) :
    PS X (.Assign [.Subscript o i pos'] value pos) (sDPutN X.prog X.w td ty tv) := by
  refine ⟨fun pins s σ H D I h => ?_⟩
  refine wpAny_Assign_Subscript (thn (hv.run pins s σ H _ I h) fun r s1 ⟨v, H1, I1, rv, q1⟩ => thn (ho.run pins s1 σ H1 _ I1 q1) fun u s2 ⟨x, H2, I2, rx, q2⟩ => thn (hi.run pins s2 σ H2 _ I2 q2) fun iv s3 ⟨y, H3, I3, ry, a, b, k, kvs, ex, ey, hk, hd, ha, ks, hl, hn, q3⟩ => ?_) hs
  subst ex ey
  obtain rfl : u = Value.ref a := rx
  obtain rfl : iv = Value.ref b := ry
  obtain ⟨sm, z, xs, rr, dd⟩ := dkN_at I3 (.inl ha) ks
  have hl' : xs.length ≤ sizeLine := by rw [← Paired.length rr]; exact z
  have hx : atKey xs (nk k) = none := by
    have q := (rows_at rr (nk k)).isSome_eq
    rw [hn, Option.isSome_map] at q
    exact Option.not_isSome_iff_eq_none.mp (by rw [← q]; simp)
  refine wpAny_setItem_heap (hsz := hl') (room_in1 hu) (key_at I3 hk hd) dd fun h' dd' sb => ?_
  exact ⟨σ, _, put_ok I3 ha sm hl rr rv hx dd' sb, q3⟩
theorem pe_setdN (hu : X.A.units + 64 < cLine) (ho : PE X o td) (he : PE X e ty) (hf : PE X f tx) (m : M2 X o "setdefault" apos e f cpos) : PE X (.Call (.Attribute o "setdefault" apos) [e, f] [] cpos) (tSetdN X.prog X.w td ty tx) := by
  refine ⟨fun pins s σ H Q I h => ?_⟩
  refine wpAny_Call_method (T := "dict") (id := "dict.setdefault") m.base m.few m.line F.plainAttrs_dict F.slot_dict_setdefault F.type_dict_setdefault (thn (ho.run pins s σ H _ I h) fun u s1 ⟨x, H1, I1, rx, ⟨a0, kvs0, ex0, ha0⟩, q1⟩ => ?_)
  subst ex0
  obtain rfl : u = Value.ref a0 := rx
  obtain ⟨⟨_, _, xs0, r0, ob0, es0, ep0, g1, g2, g3, _⟩, _⟩ := (show ObjOk X.prog X.w H1 s1.heap a0 (DkN X.prog X.w a0 kvs0) from I1.hok _ _ ha0)
  refine ⟨⟨ob0, g1, g2.1⟩, fun b q => by cases q; exact ⟨ob0, g1, g2.2.1⟩, ?_⟩
  rw [m.trees]
  refine Calls.callWith_builtin rfl (Calls.evalArgs_plain (Calls.spliced_cons (thn (he.run pins s1 σ H1 _ I1 q1) fun iv s2 ⟨y, H2, I2, ry, q2⟩ =>
    Calls.spliced_cons (thn (hf.run pins s2 σ H2 _ I2 q2) fun fv s3 ⟨z, H3, I3, rz, a, b, k, kvs, ea, ey, hk, hd, ha, ks, hl, q3, q4⟩ => Calls.spliced_nil ?_))))
  cases ea
  subst ey
  obtain rfl : iv = Value.ref b := ry
  obtain ⟨sm, z', xs, rr, dd⟩ := dkN_at I3 (.inl ha) ks
  have hl' : xs.length ≤ sizeLine := by rw [← Paired.length rr]; exact z'
  refine call_setdefault_heap (hsz := hl') (room_in1 hu) (key_at I3 hk hd) sm dd (fun p hp => ?_) fun hn h' dd' sb => ?_
  · have q := rows_at rr (nk k)
    rw [hp] at q
    cases e : lkN kvs (nk k) with
    | none => rw [e] at q; exact q.elim
    | some v =>
      rw [e] at q
      exact ⟨v, H3, I3.tok _, q, q3 v e⟩
  · have q := (rows_at rr (nk k)).isSome_eq
    rw [hn] at q
    have e : lkN kvs (nk k) = none := Option.not_isSome_iff_eq_none.mp (by rw [q]; simp)
    exact ⟨z, _, put_ok I3 ha sm hl rr rz hn dd' sb, rz, q4 e⟩
end
end SG
namespace SG
open PySem PySem.Spec PyProof.Rows L2
/-! ### for k, v in d.items(), the dict locked -/
def Itn (P : Program) (w : World) (d : Addr) (o : Obj) (kvs : List NRow) : It :=
  ⟨fun i H => H d = some (.frz o (DkN P w d kvs)) ∧ KeysAt H kvs ∧ i < kvs.length, fun i H x H' => ∃ T p, kvs[i]? = some p ∧ x = .ref T ∧ H T = none ∧ H' = upd H T (.tup [.ref p.2.1, p.2.2]), fun i H => H d = some (.frz o (DkN P w d kvs)) ∧ KeysAt H kvs ∧ kvs.length ≤ i⟩
section
variable {X : Cx} {pins : List (Addr × Obj)} {σ : L2.St} {H : Hp} {s : Shared}
theorem paired_at {α β : Type} {R : α → β → Prop} : ∀ {xs : List α} {ys : List β} {i : Nat} {x : α}, Paired R xs ys → xs[i]? = some x → ∃ y, ys[i]? = some y ∧ R x y
  | _, _, i, x, .nil, e => by cases i <;> cases e
  | _, _, 0, x, .cons r _, e => by cases e; exact ⟨_, rfl, r⟩
  | _, _, i + 1, x, .cons _ t, e => paired_at (i := i) t e
theorem frzN (I : Inv X pins σ H s) {d : Addr} {o : Obj} {kvs : List NRow} (h : H d = some (.frz o (DkN X.prog X.w d kvs))) :
    (d == sysModules) = false ∧ s.heap.get? d = some o ∧ o.ExactDict ∧ ∃ (es : Array DictEntry) (ep : Nat), o.data = .dict es ep ∧ es.size = kvs.length ∧
      ∀ (i : Nat) (p : NRow), kvs[i]? = some p → ∃ (en : DictEntry), es[i]? = some en ∧ en.key = .ref p.2.1 ∧ RelV p.2.2 en.val := by
  obtain ⟨hd, ⟨sm, z, xs, pr, o', es, ep, ho, hx, hdt, he, _⟩, _⟩ := (show ObjOk X.prog X.w H s.heap d (.frz o (DkN X.prog X.w d kvs)) from I.hok d _ h)
  rw [hd] at ho
  cases ho
  refine ⟨sm, hd, hx, es, ep, hdt, ?_, fun i p e => ?_⟩
  · have l1 : es.toList.length = xs.length := by rw [he, List.length_map]
    rw [Array.length_toList] at l1
    have l2 := Paired.length pr
    omega
  · obtain ⟨q, hq, h1, h2, h3⟩ := paired_at pr e
    have k := entry_at he i
    rw [hq] at k
    exact ⟨_, k, by rw [h2]; rfl, h3⟩
end
theorem turn_itemsN {P : Program} {w : World} {K : PySem.W.Frag} {kvs : List NRow} {elts : List Expr} {kk : Nat} {tpos : Pos} {d : Addr} {o : Obj} {es : Array DictEntry} {ep : Nat} (it : Addr) (hod : o.data = .dict es ep) :
    Turn P w K (.Tuple elts kk tpos) (Itn P w d o kvs) [it] it (fun i h => ∃ ok ov, IsItemIter h it d i es.size ep ok ov) where
  mem := by simp
  obj := fun i h st b hb => by
    have e : b = it := by simpa using hb
    subst e
    obtain ⟨ok, ov, e⟩ := st
    exact ⟨_, e, fun v z => nomatch z⟩
  keep := fun i h h' st k => let ⟨ok, ov, e⟩ := st; ⟨ok, ov, k it (by simp) _ e⟩
  item := by
    intro X hP hw hK hc i pins s σ H E I hf st hg
    subst hP hw hK
    obtain ⟨hd, hk, hi⟩ := hg
    obtain ⟨hs, hgd, hx, es', ep', hdt, hsz, ent⟩ := frzN I hd
    obtain ⟨rfl, rfl⟩ := dict_ep hod hdt
    obtain ⟨p, hp⟩ : ∃ p, kvs[i]? = some p := ⟨kvs[i], List.getElem?_eq_getElem hi⟩
    obtain ⟨en, hen, hke, hve⟩ := ent i p hp
    have hie : i < es'.size := by rw [hsz]; exact hi
    have een : es'[i] = en := by
      rw [Array.getElem?_eq_getElem hie] at hen
      exact Option.some.inj hen
    obtain ⟨ok, ov, he⟩ := st
    have hlt : it < s.heap.objs.size := Heap.lt_size he
    refine wpAny_pyNext_items_item_raw he ⟨o, hgd, hx, hdt⟩ hie fun h' ho hT hz hk' => ?_
    rw [een] at hT ho
    refine ⟨_, rfl, wpAny_letOwnedTupleGo_items (s := { s with heap := h' }) ho fun h'' he' sb => ?_⟩
    have hT2 : h''.get? s.heap.objs.size = some { cls := .type "tuple", data := .seq #[en.key, en.val] } := (sb.2 _ (Nat.ne_of_gt hlt)).trans hT
    have new : ObjOk X.prog X.w (upd H s.heap.objs.size (.tup [.ref p.2.1, p.2.2])) h'' s.heap.objs.size (.tup [.ref p.2.1, p.2.2]) :=
      ⟨by show 2 ≤ sizeLine; decide, [en.key, en.val], .cons hke (.cons hve .nil), ⟨_, hT2, rfl, _, rfl⟩⟩
    have I1 : Inv X pins σ (upd H s.heap.objs.size (.tup [.ref p.2.1, p.2.2])) { s with heap := h'' } :=
      I.turnedNew (t' := s.toks) (ch := [it]) (fun b ob hb e => (sb.2 b (by simpa using hb)).trans (hk' b ob (by simpa using hb) e)) hf (Nat.le_refl _) new
    refine ⟨.ref s.heap.objs.size, _, I1, rfl, ⟨_, p, hp, rfl, I.hok.fresh (Nat.le_refl _), rfl⟩, ⟨en.key, en.val, ?_⟩, fun b hb => ?_⟩
    · exact he'
    · have e : b = it := by simpa using hb
      rw [e, upd_ne (Nat.ne_of_lt hlt)]
      exact (hf it (by simp)).1
  done := by
    intro X hP hw hK hc i pins s σ H E I hf st hg
    subst hP hw hK
    obtain ⟨hd, _, hi⟩ := hg
    obtain ⟨f0, f1, f2, f3, f4, f5⟩ := hf it (by simp)
    obtain ⟨hs, hgd, hx, es', ep', hdt, hsz, _⟩ := frzN I hd
    obtain ⟨rfl, rfl⟩ := dict_ep hod hdt
    obtain ⟨ok, ov, he⟩ := st
    exact wpAny_pyNext_items_end_raw (I.ok.hd hc) he ⟨o, hgd, hx, hdt⟩ (by rw [hsz]; exact hi) fun h' eb => ⟨rfl, I.turned (t' := s.toks) (fun b ob hb e => eb b ob hb e) f0 f1 f3 f4 f5⟩
  self := fun A i s Q E st h => let ⟨_, _, e⟩ := st; PySem.W.kcp_self e h
def iItemsN (P : Program) (w : World) (td : TE) : TI := fun σ H R => td σ H fun x H1 => ∃ d o kvs, x = .ref d ∧ H1 d = some (.frz o (DkN P w d kvs)) ∧ R (Itn P w d o kvs) H1
section
variable {X : Cx} {tg e : Expr} {td : TE} {apos cpos : Pos}
theorem pi_itemsN {elts : List Expr} {kk : Nat} {tpos : Pos} (he : PE X e td) (hbase : attributeBase e "items" X.env (eval e X.env) = eval e X.env := by rfl) (hline : (apos.endLine == cpos.line) = true := by rfl) :
    PI X (.Tuple elts kk tpos) (.Call (.Attribute e "items" apos) [] [] cpos) (iItemsN X.prog X.w td) := by
  refine ⟨fun pins s σ H R I h => ?_⟩
  refine wpAny_Call_method (T := "dict") (id := "dict.items") hbase rfl hline F.plainAttrs_dict F.slot_dict_items F.type_dict_items (thn (he.run pins s σ H _ I h) fun u s1 ⟨x, H1, I1, rx, d, o, kvs, ex, hd, q⟩ => ?_)
  subst ex
  obtain rfl : u = Value.ref d := rx
  obtain ⟨hs, hgd, hx, es, ep, hdt, hsz, _⟩ := frzN I1 hd
  refine ⟨⟨o, hgd, hx.1⟩, fun b q => by cases q; exact ⟨o, hgd, hx.2.1⟩, ?_⟩
  have I2 : Inv X pins σ H1 { s1 with heap := s1.heap.push { cls := .type "dict_items", data := .fields #[.ref d] } } := I1.kept (t' := s1.toks) fun b ob q => Heap.get?_push_of_some _ q
  have fin : wpAny (model X.prog X.w) X.A (pyIter (.ref s1.heap.objs.size)) (PIE X pins σ (.Tuple elts kk tpos) R) X.xe { s1 with heap := s1.heap.push { cls := .type "dict_items", data := .fields #[.ref d] } } := by
    refine wpAny_pyIter_items_raw (d := d) (es := es) (ep := ep) ⟨_, Heap.get?_push_size _ rfl, rfl, rfl⟩ ⟨o, Heap.get?_push_of_some _ hgd, hx, hdt⟩ (pi_one (tk := s1.toks) I2 _ (turn_itemsN _ hdt) ⟨.none, .none, ?_⟩ q)
    exact Heap.get?_push_size _ rfl
  show wpAny _ _ (callWith cpos (.builtin "dict.items") [.ref d] [] []) _ X.xe s1
  exact method_meetsIn F.slot_dict_items F.entry_dict_items rfl (PySem.evalArgs_none ⟨rfl, ⟨o, hgd, hx.1⟩, F.args_dict_items_1 _, _, meets_dict_items_raw d hs, ⟨es, ep, o, hgd, hx, hdt⟩, fin⟩)
end
/-! ### enumerate(tuple) -/
def Itet (K : PySem.W.Frag) (a : Addr) : It :=
  ⟨fun i H => ∃ (xs : List V) (x : V), SqT K H a xs ∧ xs[i]? = some x, fun i H v H' => ∃ T x, v = .ref T ∧ H T = none ∧ H' = upd H T (.tup [.int (i : Nat), x]) ∧ ∀ xs, SqT K H a xs → xs[i]? = some x, fun i H => ∃ xs : List V, SqT K H a xs ∧ xs.length ≤ i⟩
theorem meets_enumerate_newT (l : Addr) (items : Array Value) (o : Obj) (hc : o.cls = .type "tuple") (n : Nat) (hd : o.data = .seq items n) :
    Meets (Builtin.«enumerate.__new__» ⟨[.type "enumerate", .ref l], []⟩) (fun _ R s => s.heap.get? l = some o ∧
      R (.ok (.ret (.ref (s.heap.push { cls := .type "tuple_iterator", data := .fields #[.ref l, .int 0 0] }).objs.size)))
        { s with heap := (s.heap.push { cls := .type "tuple_iterator", data := .fields #[.ref l, .int 0 0] }).push { cls := .type "enumerate", data := .fields #[.none, .bool false, .ref s.heap.objs.size, rawInt 0, .none, .none] } }) :=
  .of_wp fun prog w A R s h => by
    obtain ⟨hp, g, d, tk, os⟩ := s; obtain ⟨hl, h⟩ := h
    have hsub := sub_enumerate
    have q1 : ∀ {A' : Around} {E : Value → Shared → Prop} {Q : Value → Shared → Prop}, Q (.ref hp.objs.size) ⟨hp.push { cls := .type "tuple_iterator", data := .fields #[.ref l, .int 0 0] }, g, d, tk, os⟩ → wpAny (model prog w) A' (pyIter (.ref l)) Q E ⟨hp, g, d, tk, os⟩ :=
      fun q => wpAny_pyIter_tuple ⟨o, hl, hc, n, hd⟩ q
    wp_walk using q1
    refine wpAny_stack_any fun st => wpAny_pure ?_
    split
    · rename_i c _ _ _ _ _
      cases (c == Value.type "enumerate")
      · wp_walk using q1
        exact ⟨_, rfl, h⟩
      · wp_walk using q1
        exact ⟨_, rfl, h⟩
    · wp_walk using q1
      exact ⟨_, rfl, h⟩
theorem call_enumerate_tup {prog : Program} {w : World} {A : Around} {E : Value → Shared → Prop} {s : Shared} {l : Addr} {items : Array Value} {Q : Value → Shared → Prop} (hL : s.heap.IsTuple l items)
    (h : ∀ h', IsEnum h' (s.heap.objs.size + 1) s.heap.objs.size 0 .none → h'.IsTupleIter s.heap.objs.size l 0 → h'.objs.size = s.heap.objs.size + 2 →
      (∀ b o, s.heap.get? b = some o → h'.get? b = some o) → Q (.ref (s.heap.objs.size + 1)) { s with heap := h' }) :
    wpAny (model prog w) A (call (.type "enumerate") [.ref l]) Q E s := by
  obtain ⟨o, hl, hc, n, hd⟩ := hL
  refine callType_new F.called_enumerate (by decide) (F.typeCall_enumerate_1 _) (F.newCall_enumerate_1 _) (fun obj => F.args_object_init_2 obj _) F.entry_enumerate_new
    (meets_enumerate_newT l items o hc n hd) ⟨hl, ?_⟩
  have hz : (s.heap.push { cls := .type "tuple_iterator", data := .fields #[.ref l, .int 0 0] }).objs.size = s.heap.objs.size + 1 := Heap.size_push ..
  show _ ∧ _
  rw [hz]
  have he : IsEnum ((s.heap.push { cls := .type "tuple_iterator", data := .fields #[.ref l, .int 0 0] }).push
      { cls := .type "enumerate", data := .fields #[.none, .bool false, .ref s.heap.objs.size, rawInt 0, .none, .none] }) (s.heap.objs.size + 1) s.heap.objs.size 0 .none := by
    have := Heap.get?_push_size (s.heap.push { cls := .type "tuple_iterator", data := .fields #[.ref l, .int 0 0] })
      (o := { cls := .type "enumerate", data := .fields #[.none, .bool false, .ref s.heap.objs.size, rawInt 0, .none, .none] }) rfl
    rw [hz] at this; exact this
  refine ⟨⟨_, he, rfl⟩, h _ he ⟨_, Heap.get?_push_of_some _ (Heap.get?_push_size _ rfl), rfl, rfl⟩ (by rw [Heap.size_push, hz]) fun b o x => Heap.get?_push_of_some _ (Heap.get?_push_of_some _ x)⟩
theorem enumT_end {prog : Program} {w : World} {A : Around} {E : Value → Shared → Prop} {s : Shared} {e it l : Addr} {i : Nat} {c : Int} {items : Array Value} {old : Value} {Q : Option Value → Shared → Prop} (hh : A.handled = none)
    (he : IsEnum s.heap e it c old) (hit : s.heap.IsTupleIter it l i) (hl : s.heap.IsTuple l items) (hx : items[i]? = none)
    (hQ : ∀ h', Heap.ExtBut it s.heap h' → Q none { s with heap := h' }) : wpAny (model prog w) A (pyNext (.ref e)) Q E s := by
  have hT : s.TypeIs (.ref e) "enumerate" := ⟨_, he, rfl⟩
  unfold pyNext
  refine wpAny_bind (wpAny_attempt (wpAny_callSpecial?_slot (name := Str.ofString "__next__") hT F.slot_enumerate_next
    (wpAny_call_entry F.slot_enumerate_next hT F.entry_enumerate_next ?_ (F.args_enumerate_next_1 _))))
  show wpAny _ _ (field (.ref e) 2 >>= _) _ _ _
  refine wpAny_bind (wpAny_field he rfl (x := .ref it) rfl ?_)
  refine wpAny_bind (wpAny_nextOf_tuple_end hh hit hl hx fun h' x he' hx' => ?_)
  obtain ⟨o, ho, hc⟩ := hx'
  refine wpAny_bind (wpAny_isInstance (T := "StopIteration") (b := true) ⟨o, ho, hc⟩ isSubtype_stop ?_)
  exact wpAny_pure (hQ _ he')
theorem turn_enumT {P : Program} {w : World} {K : PySem.W.Frag} {elts : List Expr} {kk : Nat} {tpos : Pos} (a e it : Addr) :
    Turn P w K (.Tuple elts kk tpos) (Itet K a) [e, it] e (fun i h => (∃ old, IsEnum h e it ((i : Nat) : Int) old) ∧ h.IsTupleIter it a i ∧ e ≠ it) where
  mem := by simp
  obj := fun i h st b hb => by
    obtain ⟨⟨old, he⟩, ⟨o, ho, hc, hd⟩, _⟩ := st
    have e' : b = e ∨ b = it := by simpa using hb
    rcases e' with z | z
    · rw [z]; exact ⟨_, he, fun v q => nomatch q⟩
    · rw [z]; exact ⟨o, ho, fun v q => by rw [hd] at q; cases q⟩
  keep := fun i h h' st k => let ⟨⟨old, he⟩, hi, hne⟩ := st; ⟨⟨old, k e (by simp) _ he⟩, hi.at fun o q => k it (by simp) o q, hne⟩
  item := by
    intro X hP hw hK hc i pins s σ H E I hf st hg
    subst hP hw hK
    obtain ⟨⟨old, he⟩, hit, hne⟩ := st
    obtain ⟨xs, x, hq, hx⟩ := hg
    obtain ⟨its, rv, p, hz⟩ := I.tuple hq
    obtain ⟨u, hu, ru⟩ := rv.get hx
    have hel : e < s.heap.objs.size := Heap.lt_size he
    have hil : it < s.heap.objs.size := by obtain ⟨_, q, _⟩ := hit; exact Heap.lt_size q
    have hiz : i < its.toArray.size := by
      rw [List.size_toArray]
      exact (List.getElem?_eq_some_iff.mp hu).1
    have hae : a ≠ e := fun z => by
      obtain ⟨o, ho, hc', n, hd'⟩ := p
      rw [z, he] at ho
      cases ho
      cases hd'
    have hai : a ≠ it := fun z => by
      obtain ⟨o, ho, hc', n, hd'⟩ := p
      obtain ⟨o2, ho2, hc2, hd2⟩ := hit
      rw [z, ho2] at ho
      cases ho
      rw [hd'] at hd2
      cases hd2
    refine wpAny_pyNext_enum_itemD (Draws.tuple (A := X.A.in1) (I.ok.hd hc) it a hai its.toArray) he ⟨hit, p⟩ hiz hne (by simp [hne, hae.symm]) fun x1 h' tk hP ho hst' hT hsz hk => ?_
    obtain rfl : x1 = u := by
      have : its.toArray[i]? = some u := by simpa using hu
      rw [this] at hP
      exact (Option.some.inj hP).symm
    refine ⟨_, rfl, wpAny_letOwnedTupleGo_enum (s := { s with heap := h', toks := tk + 1 }) ho fun h'' he' sb => ?_⟩
    have hT2 : h''.get? s.heap.objs.size = some { cls := .type "tuple", data := .seq #[.int i tk, x1] } := (sb.2 _ (Nat.ne_of_gt hel)).trans hT
    have new : ObjOk X.prog X.w (upd H s.heap.objs.size (.tup [.int (i : Nat), x])) h'' s.heap.objs.size (.tup [.int (i : Nat), x]) :=
      ⟨by show 2 ≤ sizeLine; decide, [.int i tk, x1], .cons ⟨_, rfl⟩ (.cons ru .nil), ⟨_, hT2, rfl, _, rfl⟩⟩
    have I1 : Inv X pins σ (upd H s.heap.objs.size (.tup [.int (i : Nat), x])) { s with heap := h'', toks := tk + 1 } :=
      I.turnedNew (ch := [e, it]) (fun b ob hb q => (sb.2 b (fun z => hb (by simp [z]))).trans (hk b ob (fun z => hb (by simp [z])) (fun z => hb (by simp [z])) q)) hf (Nat.le_refl _) new
    refine ⟨.ref s.heap.objs.size, _, I1, rfl, ⟨_, x, rfl, I.hok.fresh (Nat.le_refl _), rfl, fun ys hy => by rw [I.tuple_inj hy hq]; exact hx⟩, ⟨⟨x1, ?_⟩, hst'.1.at fun o q => (sb.2 it (Ne.symm hne)).trans q, hne⟩, fun b hb => ?_⟩
    · have e1 : ((i + 1 : Nat) : Int) = (i : Int) + 1 := by omega
      rw [e1]; exact he'
    · have hb' : b < s.heap.objs.size := by
        have e' : b = e ∨ b = it := by simpa using hb
        rcases e' with z | z
        · rw [z]; exact hel
        · rw [z]; exact hil
      rw [upd_ne (Nat.ne_of_lt hb')]
      exact (hf b hb).1
  done := by
    intro X hP hw hK hc i pins s σ H E I hf st hg
    subst hP hw hK
    obtain ⟨⟨old, he⟩, hit, hne⟩ := st
    obtain ⟨xs, hq, hx⟩ := hg
    obtain ⟨its, rv, p, hz⟩ := I.tuple hq
    obtain ⟨f0, f1, f2, f3, f4, f5⟩ := hf it (by simp)
    have hl := rv.length
    exact enumT_end (I.ok.hd hc) he hit p (by simp; omega) fun h' eb => ⟨rfl, I.turned (t' := s.toks) (fun b o hb q => eb b o hb q) f0 f1 f3 f4 f5⟩
  self := fun A i s Q E st h => let ⟨⟨_, he⟩, _⟩ := st; wpAny_pyIter_enum he h
def iEnumT (K : PySem.W.Frag) (ta : TA) : TI := fun σ H R => ta σ H fun vs H1 => ∃ a xs, vs = [.ref a] ∧ SqT K H1 a xs ∧ R (Itet K a) H1
theorem pi_enumT {X : Cx} {e : Expr} {ta : TA} {p pos tpos : Pos} {elts : List Expr} {kk : Nat} (hg : Gl X "enumerate") (hm : X.mg "enumerate" = none) (ha : PA X [e] ta) (hs : starEach [e] X.env = [(false, eval e X.env)] := by rfl) :
    PI X (.Tuple elts kk tpos) (.Call (.Name "enumerate" p) [e] [] pos) (iEnumT X.K ta) := by
  refine ⟨fun pins s σ H R I h => ?_⟩
  refine Call_ (ld_blt I hg hm boot_enumerate (PyProof.Rows.callWith_type1 (thn (ha.run pos pins s σ H _ I h) fun us s1 ⟨vs, H1, I1, r1, q1⟩ => ?_) hs rfl))
  obtain ⟨a, xs, ex, hq, q⟩ := q1
  subst ex
  cases r1 with
  | cons r rr =>
    cases rr
    cases r
    obtain ⟨its, rv, p', hz⟩ := I1.tuple hq
    refine call_enumerate_tup p' fun h' he hit hsz hk => wpAny_pyIter_enum he ?_
    have I2 : Inv X pins σ H1 { s1 with heap := h' } := I1.kept (t' := s1.toks) hk
    refine ⟨s1.heap.objs.size + 1, [s1.heap.objs.size + 1, s1.heap.objs.size], _, _, H1, rfl, I2, turn_enumT a (s1.heap.objs.size + 1) s1.heap.objs.size, ⟨⟨.none, he⟩, hit, Nat.succ_ne_self _⟩, fun b hb => ?_, q⟩
    have e' : b = s1.heap.objs.size + 1 ∨ b = s1.heap.objs.size := by simpa using hb
    have hle : s1.heap.objs.size ≤ b := by
      rcases e' with z | z
      · rw [z]; exact Nat.le_add_right _ _
      · rw [z]; exact Nat.le_refl _
    exact I1.fpOk hle (I1.hok.fresh hle)
end SG
namespace SG
open PySem L2
/-! ### words, contents, writes as data -/
abbrev Ws := List Int
def wd (ws : List Int) : PyData := .tuple (ws.map .int)
def ct (cs : List (List Int)) : PyData := .tuple (cs.map wd)
def pw (p : Int × List Int) : PyData := .tuple [.int p.1, wd p.2]
def snap (dur : List (List Int)) (pend : List (Int × List Int)) : PyData := .tuple [ct dur, .tuple (pend.map pw)]
theorem Ft.ofWd {H : Hp} {ws : List Int} {v : V} (h : Ft H (wd ws) v) : ∃ p, v = .ref p ∧ H p = some (.tup (ws.map V.int)) := by
  obtain ⟨p, xs, e, h1, h2⟩ := Ft.tup h
  exact ⟨p, e, by rw [h1, h2.ints_eq]⟩
theorem Ft.mkWd {H : Hp} {ws : List Int} {p : Addr} (h : H p = some (.tup (ws.map V.int))) : Ft H (wd ws) (.ref p) := Ft.mkTup h .ints
/-! ### data that compare -/
def Shp (n : Nat) (d : PyData) : Prop := d.canLay0 = true ∧ d.depth ≤ n
theorem canAll : ∀ {ds : List PyData}, (∀ d ∈ ds, d.canLay0 = true) → PyData.canLayAll0 ds = true
  | [], _ => rfl
  | d :: ds, h => by
    rw [PyData.canLayAll0, h d (List.mem_cons_self ..), canAll fun x hx => h x (List.mem_cons_of_mem _ hx)]; rfl
theorem depAll {n : Nat} : ∀ {ds : List PyData}, (∀ d ∈ ds, d.depth ≤ n) → PyData.depthAll ds ≤ n
  | [], _ => Nat.zero_le _
  | d :: ds, h => by
    rw [PyData.depthAll]
    exact Nat.max_le.mpr ⟨h d (List.mem_cons_self ..), depAll fun x hx => h x (List.mem_cons_of_mem _ hx)⟩
theorem Shp.int (n : Nat) (i : Int) : Shp n (.int i) := ⟨by simp [PyData.canLay0], by simp [PyData.depth]⟩
theorem Shp.tuple {n : Nat} {ds : List PyData} (h : ∀ d ∈ ds, Shp n d) : Shp (n + 1) (.tuple ds) := by
  refine ⟨?_, ?_⟩
  · rw [PyData.canLay0]; exact canAll fun d hd => (h d hd).1
  · rw [PyData.depth]; exact Nat.succ_le_succ (depAll fun d hd => (h d hd).2)
theorem Shp.list {n : Nat} {ds : List PyData} (h : ∀ d ∈ ds, Shp n d) : Shp (n + 1) (.list ds) := by
  refine ⟨?_, ?_⟩
  · rw [PyData.canLay0]; exact canAll fun d hd => (h d hd).1
  · rw [PyData.depth]; exact Nat.succ_le_succ (depAll fun d hd => (h d hd).2)
theorem Shp.mono {n m : Nat} {d : PyData} (h : Shp n d) (l : n ≤ m) : Shp m d := ⟨h.1, Nat.le_trans h.2 l⟩
theorem Shp.ok {n : Nat} {d : PyData} (h : Shp n d) (l : n ≤ 64) : SeqAt.shaped d = true := by
  unfold SeqAt.shaped
  rw [h.1, decide_eq_true (Nat.le_trans h.2 l)]; rfl
theorem Shp.eq {n : Nat} {d : PyData} (h : Shp n d) : PyData.eqv d d = true := SeqAt.eqv_refl d h.1
theorem shp_wd (ws : List Int) : Shp 1 (wd ws) := Shp.tuple fun d hd => by
  obtain ⟨i, _, rfl⟩ := List.mem_map.mp hd
  exact Shp.int 0 i
theorem shp_ct (cs : List (List Int)) : Shp 2 (ct cs) := Shp.tuple fun d hd => by
  obtain ⟨i, _, rfl⟩ := List.mem_map.mp hd
  exact shp_wd i
theorem shp_pw (p : Int × List Int) : Shp 2 (pw p) := Shp.tuple fun d hd => by
  rcases List.mem_cons.mp hd with rfl | hd
  · exact Shp.int 1 _
  · rw [List.mem_singleton.mp hd]; exact shp_wd _
theorem shp_snap (dur : List (List Int)) (pend : List (Int × List Int)) : Shp 4 (snap dur pend) := Shp.tuple fun d hd => by
  rcases List.mem_cons.mp hd with rfl | hd
  · exact (shp_ct _).mono (by decide)
  · rw [List.mem_singleton.mp hd]
    refine Shp.tuple fun d hd => ?_
    obtain ⟨i, _, rfl⟩ := List.mem_map.mp hd
    exact shp_pw i
end SG
namespace SG
open PySem L2
/-! ### the mathematics of images -/
theorem snocRec {α : Type} {P : List α → Prop} (nil : P []) (snoc : ∀ xs x, P xs → P (xs ++ [x])) (xs : List α) : P xs := by
  have h : ∀ ys : List α, P ys.reverse := fun ys => by
    induction ys with
    | nil => exact nil
    | cons a r ih => rw [List.reverse_cons]; exact snoc _ _ ih
  have := h xs.reverse
  rwa [List.reverse_reverse] at this
/-- the words that pending writes bring to a sector -/
def sel (s : Int) (pend : List (Int × Ws)) : List Ws := (pend.filter fun p => decide (p.1 = s)).map (·.2)
def mixes (old new : Ws) : List Ws := (List.range (new.length - 1)).map fun k => new.take (k + 1) ++ old.drop (k + 1)
/-- what the choices of a sector leave -/
def lefts (t : Bool) : Ws → List Ws → List Ws
  | w0, [] => [w0]
  | w0, w :: ws => w0 :: ((if t = true then mixes w0 w else []) ++ lefts t w ws)
theorem lefts_false (w0 : Ws) (ws : List Ws) : lefts false w0 ws = w0 :: ws := by
  induction ws generalizing w0 with
  | nil => rfl
  | cons w ws ih => rw [lefts, ih]; rfl
theorem lefts_ne (t : Bool) (w0 : Ws) (ws : List Ws) : lefts t w0 ws ≠ [] := by
  cases ws <;> simp [lefts]
/-- one pair of the whole: what is torn between -/
def tornP (p : Ws × Ws) : List Ws := (List.range p.1.length).map fun k => p.2.take k ++ p.1.drop k
theorem tornP_eq {a b : Ws} (h : a.length = b.length) (h1 : 1 ≤ a.length) : tornP (a, b) = a :: mixes a b := by
  unfold tornP mixes
  rw [← h]
  obtain ⟨n, hn⟩ : ∃ n, a.length = n + 1 := ⟨a.length - 1, by omega⟩
  rw [hn, List.range_succ_eq_map, List.map_cons, List.map_map]
  simp
theorem torn_all {W : Nat} (h1 : 1 ≤ W) : ∀ (ws : List Ws) (w0 : Ws), w0.length = W → (∀ w ∈ ws, w.length = W) →
    (((w0 :: ws).zip ws).flatMap tornP) ++ (w0 :: ws).drop ws.length = lefts true w0 ws
  | [], w0, _, _ => by simp [lefts]
  | w :: ws, w0, h0, h => by
    have hw := h w (List.mem_cons_self ..)
    have ih := torn_all h1 ws w hw fun x hx => h x (List.mem_cons_of_mem _ hx)
    rw [List.zip_cons_cons, List.flatMap_cons, tornP_eq (h0.trans hw.symm) (by omega), lefts, if_pos rfl, ← ih]
    simp
theorem lefts_len {W : Nat} (t : Bool) : ∀ (ws : List Ws) (w0 : Ws), (∀ w ∈ ws, w.length = W) → (lefts t w0 ws).length ≤ 1 + ws.length * (W + 1)
  | [], w0, _ => by simp [lefts]
  | w :: ws, w0, h => by
    have ih := lefts_len t ws w fun x hx => h x (List.mem_cons_of_mem _ hx)
    have hw := h w (List.mem_cons_self ..)
    rw [lefts, List.length_cons, List.length_append, List.length_cons]
    have : (if t = true then mixes w0 w else []).length ≤ W := by
      split
      · unfold mixes; rw [List.length_map, List.length_range]; omega
      · exact Nat.zero_le _
    rw [Nat.add_mul, Nat.one_mul]
    omega
theorem mixes_mem {W : Nat} {a b : Ws} (ha : a.length = W) (hb : b.length = W) : ∀ w ∈ mixes a b, w.length = W := fun w hw => by
  obtain ⟨k, hk, rfl⟩ := List.mem_map.mp hw
  rw [List.mem_range] at hk
  rw [List.length_append, List.length_take, List.length_drop]
  omega
theorem lefts_mem {W : Nat} (t : Bool) : ∀ (ws : List Ws) (w0 : Ws), w0.length = W → (∀ w ∈ ws, w.length = W) → ∀ w ∈ lefts t w0 ws, w.length = W
  | [], w0, h0, _, w, hw => by
    simp only [lefts, List.mem_singleton] at hw
    rw [hw]; exact h0
  | v :: ws, w0, h0, h, w, hw => by
    have hv := h v (List.mem_cons_self ..)
    rw [lefts] at hw
    rcases List.mem_cons.mp hw with rfl | hw
    · exact h0
    · rcases List.mem_append.mp hw with hw | hw
      · split at hw
        · exact mixes_mem h0 hv w hw
        · cases hw
      · exact lefts_mem t ws v hv (fun x hx => h x (List.mem_cons_of_mem _ hx)) w hw
theorem sel_len (s : Int) (pend : List (Int × Ws)) : (sel s pend).length ≤ pend.length := by
  unfold sel; rw [List.length_map]; exact List.length_filter_le _ _
theorem sel_mem {W : Nat} {s : Int} {pend : List (Int × Ws)} (h : ∀ p ∈ pend, p.2.length = W) : ∀ w ∈ sel s pend, w.length = W := fun w hw => by
  obtain ⟨p, hp, rfl⟩ := List.mem_map.mp hw
  exact h p (List.mem_filter.mp hp).1
/-- the choices of all sectors -/
def outsOf (t : Bool) (dur : List Ws) (pend : List (Int × Ws)) (s : Nat) : List Ws := lefts t (dur.getD s []) (sel (s : Int) pend)
def outs (t : Bool) (dur : List Ws) (pend : List (Int × Ws)) (n : Nat) : List (List Ws) := (List.range n).map (outsOf t dur pend)
/-! rows and images -/
abbrev RC := List Int × List Ws
/-- the list with the numbers of its items ahead -/
def en (xs : List Ws) : List (Int × Ws) := xs.mapIdx fun i w => ((i : Int), w)
theorem en_len (xs : List Ws) : (en xs).length = xs.length := by unfold en; simp
theorem en_get (xs : List Ws) (i : Nat) (h : i < xs.length) : (en xs)[i]? = some ((i : Int), xs[i]) := by unfold en; simp [h]
theorem en_snoc (xs : List Ws) (w : Ws) : en (xs ++ [w]) = en xs ++ [((xs.length : Int), w)] := by unfold en; simp [List.mapIdx_append]
def ext (p : RC) (q : Int × Ws) : RC := (p.1 ++ [q.1], p.2 ++ [q.2])
def grow (found : List RC) (qs : List (Int × Ws)) : List RC := found.flatMap fun p => qs.map (ext p)
def allFrom : List RC → List (List Ws) → List RC
  | f, [] => f
  | f, l :: ls => allFrom (grow f (en l)) ls
def allL (ls : List (List Ws)) : List RC := allFrom [([], [])] ls
theorem allFrom_snoc : ∀ (ls : List (List Ws)) (f : List RC) (l : List Ws), allFrom f (ls ++ [l]) = grow (allFrom f ls) (en l)
  | [], _, _ => rfl
  | _ :: ls, _, l => allFrom_snoc ls _ l
theorem allL_snoc (ls : List (List Ws)) (l : List Ws) : allL (ls ++ [l]) = grow (allL ls) (en l) := allFrom_snoc ls _ l
theorem grow_len (found : List RC) (qs : List (Int × Ws)) : (grow found qs).length = found.length * qs.length := by
  unfold grow
  induction found with
  | nil => simp
  | cons p r ih => rw [List.flatMap_cons, List.length_append, List.length_map, ih, List.length_cons, Nat.add_mul, Nat.one_mul, Nat.add_comm]
theorem outs_snoc (t : Bool) (dur : List Ws) (pend : List (Int × Ws)) (n : Nat) : outs t dur pend (n + 1) = outs t dur pend n ++ [outsOf t dur pend n] := by
  unfold outs
  rw [List.range_succ, List.map_append]; rfl
theorem allL_len_mono (ls : List (List Ws)) (l : List Ws) (h : l ≠ []) : (allL ls).length ≤ (allL (ls ++ [l])).length := by
  rw [allL_snoc, grow_len, en_len]
  have : 1 ≤ l.length := List.length_pos_iff.mpr h
  exact Nat.le_mul_of_pos_right _ this
theorem outs_len_mono (t : Bool) (dur : List Ws) (pend : List (Int × Ws)) : ∀ (m n : Nat), m ≤ n → (allL (outs t dur pend m)).length ≤ (allL (outs t dur pend n)).length := fun m n h => by
  induction n with
  | zero => obtain rfl : m = 0 := by omega
            exact Nat.le_refl _
  | succ n ih =>
    by_cases e : m = n + 1
    · rw [e]; exact Nat.le_refl _
    · refine Nat.le_trans (ih (by omega)) ?_
      rw [outs_snoc]
      exact allL_len_mono _ _ (lefts_ne _ _ _)
/-- the image of a row -/
def imgOf (ls : List (List Ws)) (row : List Int) : List Ws := List.zipWith (fun l (c : Int) => l.getD c.toNat []) ls row
theorem imgOf_snoc {ls : List (List Ws)} {row : List Int} (h : ls.length = row.length) (l : List Ws) (c : Int) : imgOf (ls ++ [l]) (row ++ [c]) = imgOf ls row ++ [l.getD c.toNat []] := by
  unfold imgOf
  rw [List.zipWith_append h]; rfl
/-- what holds of each row and its contents -/
def RowOf (ls : List (List Ws)) (p : RC) : Prop := p.1.length = ls.length ∧ p.2 = imgOf ls p.1 ∧ ∀ (i : Nat) (c : Int) (l : List Ws), p.1[i]? = some c → ls[i]? = some l → 0 ≤ c ∧ c.toNat < l.length
theorem grow_mem {found : List RC} {qs : List (Int × Ws)} {p : RC} (h : p ∈ grow found qs) : ∃ a ∈ found, ∃ q ∈ qs, p = ext a q := by
  obtain ⟨a, ha, hp⟩ := List.mem_flatMap.mp h
  obtain ⟨q, hq, rfl⟩ := List.mem_map.mp hp
  exact ⟨a, ha, q, hq, rfl⟩
theorem en_mem {xs : List Ws} {q : Int × Ws} (h : q ∈ en xs) : ∃ i, i < xs.length ∧ q.1 = (i : Int) ∧ xs[i]? = some q.2 := by
  obtain ⟨i, hi⟩ := List.getElem?_of_mem h
  have hl : i < xs.length := by
    rw [← en_len]; exact (List.getElem?_eq_some_iff.mp hi).1
  rw [en_get xs i hl] at hi
  cases hi
  exact ⟨i, hl, rfl, List.getElem?_eq_getElem hl⟩
theorem RowOf.grow {ls : List (List Ws)} {found : List RC} {l : List Ws} (h : ∀ p ∈ found, RowOf ls p) : ∀ p ∈ grow found (en l), RowOf (ls ++ [l]) p := fun p hp => by
  obtain ⟨a, ha, q, hq, rfl⟩ := grow_mem hp
  obtain ⟨h1, h2, h3⟩ := h a ha
  obtain ⟨j, hj, e1, e2⟩ := en_mem hq
  refine ⟨by simp [ext, h1], ?_, fun i c l' hi hl => ?_⟩
  · show a.2 ++ [q.2] = imgOf (ls ++ [l]) (a.1 ++ [q.1])
    rw [imgOf_snoc h1.symm, ← h2, e1]
    have : l.getD ((j : Int)).toNat [] = q.2 := by
      rw [Int.toNat_natCast, List.getD_eq_getElem?_getD, e2]; rfl
    rw [this]
  · have hi : (a.1 ++ [q.1])[i]? = some c := hi
    by_cases z : i < ls.length
    · rw [List.getElem?_append_left (by omega)] at hi
      rw [List.getElem?_append_left z] at hl
      exact h3 i c l' hi hl
    · rw [List.getElem?_append_right (by omega)] at hi hl
      have e : i - ls.length = 0 := by
        have := (List.getElem?_eq_some_iff.mp hl).1
        simp at this; omega
      rw [h1, e] at hi
      rw [e] at hl
      cases hi
      cases hl
      rw [e1]
      exact ⟨by omega, by simpa using hj⟩
theorem allL_row (t : Bool) (dur : List Ws) (pend : List (Int × Ws)) : ∀ n, ∀ p ∈ allL (outs t dur pend n), RowOf (outs t dur pend n) p
  | 0, p, hp => by
    have e : p = ([], []) := by simpa [outs, allL, allFrom] using hp
    rw [e]
    exact ⟨rfl, rfl, fun i c l h _ => by cases h⟩
  | n + 1, p, hp => by
    rw [outs_snoc] at hp ⊢
    rw [allL_snoc] at hp
    exact RowOf.grow (allL_row t dur pend n) p hp
/-! keep the first of each -/
section
variable {α κ : Type} [DecidableEq κ]
def ddS (key : α → κ) (acc : List α) (a : α) : List α := if key a ∈ acc.map key then acc else acc ++ [a]
def dd (key : α → κ) (xs : List α) : List α := xs.foldl (ddS key) []
theorem dd_snoc (key : α → κ) (xs : List α) (a : α) : dd key (xs ++ [a]) = ddS key (dd key xs) a := by
  unfold dd; rw [List.foldl_append]; rfl
theorem ddS_keys (key : α → κ) (acc : List α) (a : α) (k : κ) : k ∈ (ddS key acc a).map key ↔ k ∈ acc.map key ∨ k = key a := by
  unfold ddS
  split
  · rename_i h
    exact ⟨.inl, fun z => z.elim id fun e => by rw [e]; exact h⟩
  · rw [List.map_append, List.mem_append]
    simp
theorem ddS_len (key : α → κ) (acc : List α) (a : α) : (ddS key acc a).length ≤ acc.length + 1 := by
  unfold ddS
  split
  · omega
  · simp
end
theorem dd_len {α κ : Type} [DecidableEq κ] (key : α → κ) (xs : List α) : (dd key xs).length ≤ xs.length := by
  have g : ∀ (ys : List α) (acc : List α), (ys.foldl (ddS key) acc).length ≤ acc.length + ys.length := by
    intro ys
    induction ys with
    | nil => intro acc; simp
    | cons a r ih =>
      intro acc
      have h1 := ih (ddS key acc a)
      have h2 := ddS_len key acc a
      rw [List.foldl_cons, List.length_cons]
      omega
  have := g xs []
  simpa [dd] using this
/-- the firsts of a sector -/
def firsts (l : List Ws) : List (Int × Ws) := dd (·.2) (en l)
def firstsL (ls : List (List Ws)) : List RC := ls.foldl (fun f l => grow f (firsts l)) [([], [])]
theorem firstsL_snoc (ls : List (List Ws)) (l : List Ws) : firstsL (ls ++ [l]) = grow (firstsL ls) (firsts l) := by
  unfold firstsL; rw [List.foldl_append]; rfl
theorem fold_in (acc : List RC) (a : RC) : ∀ (qs : List (Int × Ws)), (∀ q ∈ qs, (ext a q).2 ∈ acc.map (·.2)) → (qs.map (ext a)).foldl (ddS (·.2)) acc = acc
  | [], _ => rfl
  | q :: qs, h => by
    rw [List.map_cons, List.foldl_cons]
    have : ddS (·.2) acc (ext a q) = acc := by
      unfold ddS; rw [if_pos (h q (List.mem_cons_self ..))]
    rw [this]
    exact fold_in acc a qs fun x hx => h x (List.mem_cons_of_mem _ hx)
theorem fold_new (acc : List RC) (a : RC) (n : Nat) (hn : ∀ p ∈ acc, p.2.length = n + 1) (ha : a.2.length = n) (hno : ∀ p ∈ acc, p.2.take n ≠ a.2) (qs : List (Int × Ws)) :
    (qs.map (ext a)).foldl (ddS (·.2)) acc = acc ++ (dd (·.2) qs).map (ext a) := by
  induction qs using snocRec with
  | nil => simp [dd]
  | snoc qs q ih =>
    rw [List.map_append, List.foldl_append, ih, dd_snoc]
    show ddS (·.2) (acc ++ (dd (·.2) qs).map (ext a)) (ext a q) = _
    unfold ddS
    have key : ((ext a q).2 ∈ (acc ++ (dd (·.2) qs).map (ext a)).map (·.2)) ↔ q.2 ∈ (dd (·.2) qs).map (·.2) := by
      rw [List.map_append, List.mem_append]
      constructor
      · rintro (h | h)
        · obtain ⟨p, hp, e⟩ := List.mem_map.mp h
          exfalso
          refine hno p hp ?_
          have e : p.2 = a.2 ++ [q.2] := e
          rw [e, ← ha, List.take_left]
        · rw [List.map_map] at h
          obtain ⟨r, hr, e⟩ := List.mem_map.mp h
          have e : a.2 ++ [r.2] = a.2 ++ [q.2] := e
          have e2 := List.append_cancel_left e
          have : r.2 = q.2 := by simpa using e2
          exact List.mem_map.mpr ⟨r, hr, this⟩
      · intro h
        right
        obtain ⟨r, hr, e⟩ := List.mem_map.mp h
        rw [List.map_map]
        refine List.mem_map.mpr ⟨r, hr, ?_⟩
        show a.2 ++ [r.2] = a.2 ++ [q.2]
        rw [show r.2 = q.2 from e]
    by_cases z : q.2 ∈ (dd (·.2) qs).map (·.2)
    · rw [if_pos (key.mpr z), if_pos z]
    · rw [if_neg fun y => z (key.mp y), if_neg z, List.map_append, List.append_assoc]; rfl
theorem dd_mem {α κ : Type} [DecidableEq κ] (key : α → κ) (xs : List α) : ∀ a ∈ dd key xs, a ∈ xs := by
  induction xs using snocRec with
  | nil => intro a h; simp [dd] at h
  | snoc xs x ih =>
    intro a h
    rw [dd_snoc] at h
    unfold ddS at h
    split at h
    · exact List.mem_append_left _ (ih a h)
    · rcases List.mem_append.mp h with h | h
      · exact List.mem_append_left _ (ih a h)
      · exact List.mem_append_right _ h
theorem dd_keys {α κ : Type} [DecidableEq κ] (key : α → κ) (xs : List α) : ∀ k, k ∈ (dd key xs).map key ↔ k ∈ xs.map key := by
  induction xs using snocRec with
  | nil => intro k; simp [dd]
  | snoc xs x ih =>
    intro k
    rw [dd_snoc, ddS_keys, ih, List.map_append, List.mem_append]
    simp
theorem dd_grow (n : Nat) (qs : List (Int × Ws)) (found : List RC) (hf : ∀ p ∈ found, p.2.length = n) : dd (·.2) (grow found qs) = grow (dd (·.2) found) (dd (·.2) qs) := by
  induction found using snocRec with
  | nil => simp [grow, dd]
  | snoc found a ih =>
    have ih := ih fun p hp => hf p (List.mem_append_left _ hp)
    have ha := hf a (List.mem_append_right _ (List.mem_singleton.mpr rfl))
    have e : grow (found ++ [a]) qs = grow found qs ++ qs.map (ext a) := by unfold grow; rw [List.flatMap_append]; simp
    rw [e]
    show (grow found qs ++ qs.map (ext a)).foldl (ddS (·.2)) [] = _
    rw [List.foldl_append]
    show (qs.map (ext a)).foldl (ddS (·.2)) (dd (·.2) (grow found qs)) = _
    by_cases z : a.2 ∈ (dd (·.2) found).map (·.2)
    · have s1 : ddS (·.2) (dd (·.2) found) a = dd (·.2) found := if_pos z
      rw [ih, dd_snoc, s1]
      refine fold_in _ a qs fun q hq => ?_
      obtain ⟨b, hb, e⟩ := List.mem_map.mp z
      have hq2 : q.2 ∈ (dd (·.2) qs).map (·.2) := (dd_keys (·.2) qs q.2).mpr (List.mem_map.mpr ⟨q, hq, rfl⟩)
      obtain ⟨r, hr, e2⟩ := List.mem_map.mp hq2
      refine List.mem_map.mpr ⟨ext b r, List.mem_flatMap.mpr ⟨b, hb, List.mem_map.mpr ⟨r, hr, rfl⟩⟩, ?_⟩
      show b.2 ++ [r.2] = a.2 ++ [q.2]
      rw [show b.2 = a.2 from e, show r.2 = q.2 from e2]
    · have s1 : ddS (·.2) (dd (·.2) found) a = dd (·.2) found ++ [a] := if_neg z
      rw [ih, dd_snoc, s1, fold_new (n := n)]
      · unfold grow; rw [List.flatMap_append]; simp
      · intro p hp
        obtain ⟨b, hb, q, _, rfl⟩ := grow_mem hp
        have := hf b (List.mem_append_left _ (dd_mem _ _ b hb))
        show (b.2 ++ [q.2]).length = n + 1
        rw [List.length_append, this]; rfl
      · exact ha
      · intro p hp e2
        obtain ⟨b, hb, q, _, rfl⟩ := grow_mem hp
        refine z (List.mem_map.mpr ⟨b, hb, ?_⟩)
        have hb2 := hf b (List.mem_append_left _ (dd_mem _ _ b hb))
        have e2 : (b.2 ++ [q.2]).take n = a.2 := e2
        rw [← hb2, List.take_left] at e2
        exact e2
theorem allL_len2 (t : Bool) (dur : List Ws) (pend : List (Int × Ws)) : ∀ n, ∀ p ∈ allL (outs t dur pend n), p.2.length = n
  | 0, p, hp => by
    have e : p = ([], []) := by simpa [outs, allL, allFrom] using hp
    rw [e]; rfl
  | n + 1, p, hp => by
    rw [outs_snoc, allL_snoc] at hp
    obtain ⟨b, hb, q, _, rfl⟩ := grow_mem hp
    have := allL_len2 t dur pend n b hb
    show (b.2 ++ [q.2]).length = n + 1
    rw [List.length_append, this]; rfl
/-- the different images with their first rows -/
theorem firsts_all (t : Bool) (dur : List Ws) (pend : List (Int × Ws)) : ∀ n, dd (·.2) (allL (outs t dur pend n)) = firstsL (outs t dur pend n)
  | 0 => by simp [outs, allL, allFrom, firstsL, dd, ddS]
  | n + 1 => by
    rw [outs_snoc, allL_snoc, firstsL_snoc, dd_grow n _ _ (allL_len2 t dur pend n), firsts_all t dur pend n]; rfl
end SG
namespace SG
open PySem L2
/-! ### a list of one's own that grows, all else stands -/
def LAt (d : Addr) (H0 : Hp) (es : List PyData) (H : Hp) : Prop := ∃ acc, H d = some (.lst acc) ∧ FtAll H es acc ∧ Chg [] [] H0 H
section
variable {d : Addr} {H0 H H4 : Hp} {es fs : List PyData} {e : PyData} {y : V}
theorem LAt.start (n : H0 d = none) : LAt d H0 [] (upd H0 d (.lst [])) := ⟨[], upd_same, .nil, Chg.mk0 n _⟩
theorem LAt.chg (x : LAt d H0 es H) : Chg [] [] H0 H := x.choose_spec.2.2
theorem LAt.keep (x : LAt d H0 es H) (c : Chg [] [] H H4) : LAt d H0 es H4 := by
  obtain ⟨acc, h1, h2, h3⟩ := x
  exact ⟨acc, c.keep _ _ h1 (by intro h; cases h), h2.mono c.tups, h3.trans c⟩
theorem chg_own {H5 : Hp} {o o' : HO} (n : H0 d = none) (c : Chg [] [] H0 H) (h : H d = some o) (ho : ∀ xs, o ≠ .tup xs) : Chg [] [] H0 (upd H d o') := by
  refine ⟨fun b u e nb => ?_, fun b xs e => ?_, fun b e => ?_, fun _ h => .inl h⟩
  · rw [upd_ne (ne_of_none e n)]; exact c.keep b u e nb
  · rw [upd_ne (ne_of_none e n)]; exact c.tups b xs e
  · by_cases zb : b = d
    · rw [zb]; exact n
    · rw [upd_ne zb] at e; exact c.dom b e
theorem tups_own {o o' : HO} (h : H d = some o) (ho : ∀ xs, o ≠ .tup xs) : Tups H (upd H d o') := fun b xs e => by
  rw [upd_ne fun zb => ?_]
  · exact e
  · rw [zb, h] at e; exact ho xs (Option.some.inj e)
theorem LAt.put (x : LAt d H0 es H) (n : H0 d = none) {acc : List V} (h : FtAll H fs acc) : LAt d H0 fs (upd H d (.lst acc)) := by
  obtain ⟨acc0, h1, h2, h3⟩ := x
  exact ⟨acc, upd_same, h.mono (tups_own h1 fun _ z => by cases z), chg_own (H5 := H) n h3 h1 fun _ z => by cases z⟩
theorem LAt.push (x : LAt d H0 es H) (n : H0 d = none) (c : Chg [] [] H H4) (f : Ft H4 e y) (hl : es.length < sizeLine) :
    ∃ acc, H4 d = some (.lst acc) ∧ acc.length < sizeLine ∧ LAt d H0 (es ++ [e]) (upd H4 d (.lst (acc ++ [y]))) := by
  have x4 := x.keep c
  obtain ⟨acc, h1, h2, h3⟩ := id x4
  exact ⟨acc, h1, by rw [h2.len]; exact hl, x4.put n (h2.app (.cons f .nil))⟩
end
/-- a loop in general: a word that holds at each turn -/
theorem it_loop {J : It} {n : Nat} {Nx : Hp → Prop} {B : V → Hp → (Hp → Prop) → Prop} {H0 : Hp} (Pv : Nat → Hp → Prop) (h0 : Pv 0 H0) (hstop : ∀ H, Pv n H → J.stop n H ∧ Nx H) (hgo : ∀ i H, i < n → Pv i H → J.go i H)
    (hs : ∀ i x H H', i < n → Pv i H → J.yld i H x H' → B x H' (Pv (i + 1))) :
    ∃ W : Nat → Nat → Hp → Prop, (∃ m, W 0 m H0) ∧ ∀ i m H, W i m H → (J.stop i H ∧ Nx H) ∨ (J.go i H ∧ ∃ N : Hp → Prop, (∀ H', N H' → ∃ m', m' < m ∧ W (i + 1) m' H') ∧ ∀ x H', J.yld i H x H' → B x H' N) := by
  refine ⟨fun i m H => m = n - i ∧ i ≤ n ∧ Pv i H, ⟨n, by simp, Nat.zero_le _, h0⟩, ?_⟩
  rintro i m H ⟨rfl, hi, p⟩
  by_cases hlt : i < n
  · exact .inr ⟨hgo i H hlt p, Pv (i + 1), fun H' p' => ⟨n - (i + 1), by omega, rfl, hlt, p'⟩, fun x H' y => hs i x H H' hlt p y⟩
  · have e : i = n := by omega
    subst e
    exact .inl (hstop H p)
theorem cutV_one (x : V) (xs : List V) : cutV (x :: xs) (some 1) none = xs := by
  unfold cutV
  have e1 : HT.sIx (x :: xs).length 0 (some 1) = 1 := by
    show (if (1 : Int) < 0 then ((1 : Int) + ((x :: xs).length : Int)).toNat else min (1 : Int).toNat (x :: xs).length) = 1
    rw [if_neg (by decide), List.length_cons]
    show min 1 (xs.length + 1) = 1
    omega
  rw [e1]
  show (xs.take ((x :: xs).length - 1)) = xs
  rw [List.length_cons, Nat.add_sub_cancel, List.take_length]
theorem cutV_last (xs : List V) (h : xs ≠ []) : cutV xs (some (-1)) none = xs.drop (xs.length - 1) := by
  unfold cutV
  have hl : 1 ≤ xs.length := List.length_pos_iff.mpr h
  have e1 : HT.sIx xs.length 0 (some (-1)) = xs.length - 1 := by
    show (if (-1 : Int) < 0 then ((-1 : Int) + (xs.length : Int)).toNat else min (-1 : Int).toNat xs.length) = _
    rw [if_pos (by decide)]
    omega
  rw [e1]
  show (xs.drop (xs.length - 1)).take (xs.length - (xs.length - 1)) = _
  rw [List.take_of_length_le (by rw [List.length_drop]; omega)]
theorem cutV_take (xs : List V) (k : Nat) (h : k ≤ xs.length) : cutV xs none (some (k : Int)) = xs.take k := by
  unfold cutV
  rw [HT.sIx_none, HT.sIx_nat, List.drop_zero, Nat.sub_zero, Nat.min_eq_left h]
theorem cutV_drop (xs : List V) (k : Nat) : cutV xs (some (k : Int)) none = xs.drop k := by
  unfold cutV
  rw [HT.sIx_none, HT.sIx_nat, List.take_of_length_le (by rw [List.length_drop]; omega)]
  by_cases h : k ≤ xs.length
  · rw [Nat.min_eq_left h]
  · rw [Nat.min_eq_right (by omega), List.drop_of_length_le (Nat.le_refl _), List.drop_of_length_le (by omega)]
theorem FtAll.drop {H : Hp} : ∀ {ds : List PyData} {vs : List V} (n : Nat), FtAll H ds vs → FtAll H (ds.drop n) (vs.drop n)
  | _, _, 0, h => h
  | [], [], n + 1, _ => .nil
  | _ :: _, _ :: _, n + 1, h => h.un.2.drop n
  | [], _ :: _, _ + 1, h => h.no1.elim
  | _ :: _, [], _ + 1, h => h.no2.elim
theorem FtAll.take {H : Hp} : ∀ {ds : List PyData} {vs : List V} (n : Nat), FtAll H ds vs → FtAll H (ds.take n) (vs.take n)
  | _, _, 0, h => .nil
  | [], [], n + 1, _ => .nil
  | _ :: _, _ :: _, n + 1, h => .cons h.un.1 (h.un.2.take n)
  | [], _ :: _, _ + 1, h => h.no1.elim
  | _ :: _, [], _ + 1, h => h.no2.elim
end SG
namespace SG
open PySem L2
theorem Ft.ofSnap {H : Hp} {dur : List Ws} {pend : List (Int × Ws)} {v : V} (h : Ft H (snap dur pend) v) : ∃ p c pp cs ps, v = .ref p ∧ H p = some (.tup [.ref c, .ref pp]) ∧ H c = some (.tup cs) ∧ FtAll H (dur.map wd) cs ∧ H pp = some (.tup ps) ∧ FtAll H (pend.map pw) ps := by
  obtain ⟨p, xs, rfl, h1, h2⟩ := Ft.tup h
  match xs, h2 with
  | [x, y], h2 =>
    obtain ⟨c, cs, rfl, k1, k2⟩ := Ft.tup h2.un.1
    obtain ⟨pp, ps, rfl, k3, k4⟩ := Ft.tup h2.un.2.un.1
    exact ⟨p, c, pp, cs, ps, rfl, h1, k1, k2, k3, k4⟩
  | [], h2 => exact h2.no2.elim
  | [_], h2 => exact h2.un.2.no2.elim
  | _ :: _ :: _ :: _, h2 => exact h2.un.2.un.2.no1.elim
theorem Ft.ofPw {H : Hp} {p : Int × Ws} {v : V} (h : Ft H (pw p) v) : ∃ q w, v = .ref q ∧ H q = some (.tup [.int p.1, w]) ∧ Ft H (wd p.2) w := by
  obtain ⟨q, xs, rfl, h1, h2⟩ := Ft.tup h
  match xs, h2 with
  | [x, y], h2 =>
    have := h2.un.1.int
    subst this
    exact ⟨q, y, rfl, h1, h2.un.2.un.1⟩
  | [], h2 => exact h2.no2.elim
  | [_], h2 => exact h2.un.2.no2.elim
  | _ :: _ :: _ :: _, h2 => exact h2.un.2.un.2.no1.elim
theorem torn_le {W : Nat} : ∀ (ps : List (Ws × Ws)), (∀ q ∈ ps, q.1.length ≤ W) → ps.length ≤ 1000 → W ≤ 1000 → (ps.flatMap tornP).length ≤ 1000000 := fun ps h h2 h3 => by
  have g : ∀ (ps : List (Ws × Ws)), (∀ q ∈ ps, q.1.length ≤ W) → (ps.flatMap tornP).length ≤ ps.length * W := by
    intro ps
    induction ps with
    | nil => intro _; simp
    | cons a r ih =>
      intro h
      have := ih fun q hq => h q (List.mem_cons_of_mem _ hq)
      have h0 := h a (List.mem_cons_self ..)
      rw [List.flatMap_cons, List.length_append, List.length_cons, Nat.add_mul, Nat.one_mul]
      unfold tornP
      rw [List.length_map, List.length_range]
      unfold tornP at this
      omega
  have := g ps h
  have : ps.length * W ≤ 1000 * 1000 := Nat.mul_le_mul h2 h3
  omega
structure Good (W : Nat) (dur : List Ws) (pend : List (Int × Ws)) : Prop where
  w1 : 1 ≤ W
  w2 : W ≤ 1000
  gdur : ∀ ws ∈ dur, ws.length = W
  gpend : ∀ p ∈ pend, p.2.length = W
  few : pend.length ≤ 1000
def spOutc : Sp := fun vs H Q _ => ∃ (v : V) (s : Nat) (t : Bool) (dur : List Ws) (pend : List (Int × Ws)) (W : Nat), vs = [v, .int (s : Int), .bl t] ∧ Ft H (snap dur pend) v ∧ Good W dur pend ∧ s < dur.length ∧
  ∀ H' l, H l = none → LAt l H ((outsOf t dur pend s).map wd) H' → Q (.ref l) H'
theorem outsOf_len {W : Nat} {t : Bool} {dur : List Ws} {pend : List (Int × Ws)} {s : Nat} (g : Good W dur pend) : (outsOf t dur pend s).length ≤ 2000000 := by
  have h := lefts_len (W := W) t (sel (s : Int) pend) (dur.getD s []) (sel_mem g.gpend)
  have h2 := sel_len (s : Int) pend
  have h3 := g.few
  have h4 := g.w2
  have h5 : (sel (s : Int) pend).length * (W + 1) ≤ 1000 * 1001 := Nat.mul_le_mul (by omega) (by omega)
  unfold outsOf
  omega
theorem sel_step (s : Int) (pend : List (Int × Ws)) (i : Nat) (p : Int × Ws) (h : pend[i]? = some p) : sel s (pend.take (i + 1)) = sel s (pend.take i) ++ (if p.1 = s then [p.2] else []) := by
  unfold sel
  rw [List.take_add_one, h, List.filter_append, List.map_append]
  show _ ++ ([p].filter _).map _ = _
  by_cases e : p.1 = s
  · rw [if_pos e, List.filter_cons_of_pos (by simpa using e)]; rfl
  · rw [if_neg e, List.filter_cons_of_neg (by simpa using e)]; rfl
section
variable {P : Program} {w : World} {K : PySem.W.Frag} {mg : Str → Option Value} {base : Heap} {D : Defs}
theorem sc_outcomes : FnScope ["snapshot", "sector", "tears", "contents", "pending", "whole", "torn", "old", "new", "at", "words", "many"] ["snapshot", "sector", "tears"] (defScope s_outcomes) := ⟨rfl, rfl, rfl, by decide +kernel, rfl, by decide +kernel, by decide +kernel⟩
theorem ok_outcomes (O : Ok P K mg D) : FnOk P w K mg base CX0 1 D.foutcomes D.doutcomes ["snapshot", "sector", "tears"] spOutc := by
  refine O.Foutcomes.ok sc_outcomes (fun vs H Q E h => ?_) (fun cdv A outer s H vs Q E hr h => ?_)
  · obtain ⟨v, s, t, dur, pend, W, rfl, _⟩ := h
    rfl
  obtain ⟨v, sec, t, dur, pend, W, rfl, hv, G, hs, q⟩ := h
  have nd := sc_outcomes.nd
  have hu := hu_of hr
  have bk : ∀ own scope, blkC ["snapshot", "sector", "tears", "contents", "pending", "whole", "torn", "old", "new", "at", "words", "many"] (defScope s_outcomes) scope own = true → BlkOk ["snapshot", "sector", "tears", "contents", "pending", "whole", "torn", "old", "new", "at", "words", "many"] (defScope s_outcomes) scope own := fun own scope h => blkOk_by h
  refine ⟨_, (pss_cons (ps_asg (pv 0) (pg_tup rfl (pgs_cons (pg_name (i := 3) nd rfl (Or.inl rfl)) (pgs_cons (pg_name (i := 4) nd rfl (Or.inl rfl)) pgs_nil))))
    (pss_cons (ps_set (i := 5) nd rfl (Or.inl rfl) (pe_op op_cat (pe_lst (pa_cons (pe_ix (r := rIxT K) ix_tup (pv 3) (pv 1) (fun _ _ => rfl)) pa_nil)) (pe_lc (own := [("at", 9), ("words", 10)]) (g := gTup K 2 (gCons (gName 9) (gCons (gName 10) gNil))) (by rfl) nd (pi_tupK (K := K) (pv 4)) (bk [("at", 9), ("words", 10)] _ (by decide +kernel)) (fun _ _ _ _ _ => (pg_tup rfl (pgs_cons (pg_name (i := 9) nd rfl (Or.inl rfl)) (pgs_cons (pg_name (i := 10) nd rfl (Or.inl rfl)) pgs_nil)))) (fun _ _ _ _ _ => (pts_one (pt_cmpR op_eq (pv 9) (pv 1) (nomark _)))) (fun _ _ _ _ _ => (pv 10)))))
    (pss_cons (ps_if (pt_not (pt_val (pv 2))) (pss_one (ps_ret (pv 5))) pss_nil)
    (pss_cons (ps_set (i := 6) nd rfl (Or.inl rfl) (pe_lst pa_nil))
    (pss_cons (ps_for PassesOwn.never rfl (pi_zip (by rfl) O.zzip (pa_cons (pv 5) (pa_cons (pe_slice (r := rSlL K) sl_list (pv 5) (po_some pe_int) po_none) pa_nil))) (pg_tup rfl (pgs_cons (pg_name (i := 7) nd rfl (Or.inr rfl)) (pgs_cons (pg_name (i := 8) nd rfl (Or.inr rfl)) pgs_nil))) (pss_one (ps_expr (pe_bm PySem.F.plainAttrs_list PySem.F.slot_list_extend PySem.F.type_list_extend mt_extend (pv 6) (pa_cons (pe_lc (own := [("many", 11)]) (g := gName 11) (by rfl) nd (pi_range1 (by rfl) O.zrange (pa_cons (pe_callB (r := rLenQ K) call_lenK (by rfl) O.zlen PySem.boot_len (pa_cons (pv 7) pa_nil)) pa_nil)) (bk [("many", 11)] _ (by decide +kernel)) (fun _ _ _ _ _ => (pg_name (i := 11) nd rfl (Or.inl rfl))) (fun _ _ _ _ _ => pts_nil) (fun _ _ _ _ _ => (pe_op (r := rCatA K) op_catA (pe_slice (r := rSlA K) sl_tupA (pv 8) po_none (po_some (pv 11))) (pe_slice (r := rSlA K) sl_tupA (pv 7) (po_some (pv 11)) po_none)))) pa_nil)))))
    (pss_one (ps_ret (pe_op op_cat (pv 6) (pe_slice (r := rSlL K) sl_list (pv 5) (po_some (pe_un un_neg pe_int)) po_none))))))))), ?_⟩
  obtain ⟨p, c, pp, cs, ps, rfl, h1, h2, h3, h4, h5⟩ := hv.ofSnap
  refine ⟨_, rfl, p, _, rfl, SqT.of h1, rfl, _, _, rfl, _, _, rfl, rfl, ?_⟩
  obtain ⟨x, hx, fx⟩ := h3.get (i := sec) (d := wd (dur.getD sec [])) (by rw [List.getElem?_map, List.getElem?_eq_getElem hs, List.getD_eq_getElem?_getD, List.getElem?_eq_getElem hs]; rfl)
  refine ⟨_, rfl, _, rfl, c, cs, (sec : Int), x, rfl, rfl, SqT.of h2, at_of (j := sec) (by omega) hx, (by show 1 ≤ sizeLine; decide), fun l1 nl1 => ?_⟩
  have g1 : Chg [] [] H (upd H l1 (.lst [x])) := Chg.mk0 nl1 _
  have h4' := g1.tups _ _ h4
  refine ⟨_, rfl, pp, rfl, ⟨ps, SqT.of h4'⟩, fun d nd1 => ?_⟩
  have lp := h5.len
  rw [List.length_map] at lp
  refine it_loop (n := ps.length) (fun i H' => LAt d (upd H l1 (.lst [x])) ((sel (sec : Int) (pend.take i)).map wd) H') (LAt.start nd1) (fun H' x' => ⟨⟨ps, SqT.of (x'.chg.tups _ _ h4'), Nat.le_refl _⟩, ?_⟩)
    (fun i H' hi x' => ⟨ps, ps[i], SqT.of (x'.chg.tups _ _ h4'), List.getElem?_eq_getElem hi⟩) ?_
  rotate_left
  · intro i y H' H'' hi x' yl
    obtain ⟨rfl, yy⟩ := yl
    have hy := yy ps (SqT.of (x'.chg.tups _ _ h4'))
    have hpi : pend[i]? = some pend[i] := List.getElem?_eq_getElem (by omega)
    obtain ⟨y2, e2, fy⟩ := h5.get (i := i) (d := pw pend[i]) (by rw [List.getElem?_map, hpi]; rfl)
    rw [hy] at e2
    cases e2
    obtain ⟨qq, wv, rfl, k1, k2⟩ := fy.ofPw
    have tt := (g1.trans x'.chg).tups
    refine ⟨qq, _, rfl, SqT.of (tt _ _ k1), rfl, _, _, rfl, _, _, rfl, rfl, ?_⟩
    refine ⟨rfl, _, rfl, _, rfl, rfl, _, rfl, ite2 (fun z => ?_) (fun z => ?_)⟩
    · have e : pend[i].1 = (sec : Int) := by simpa using z
      have := x'.push (e := wd pend[i].2) (y := wv) nd1 (Chg.refl _ _) (k2.mono tt) (by rw [List.length_map]; have := sel_len (sec : Int) (pend.take i); have := List.length_take_le i pend; exact sl (by have := G.few; omega))
      refine ⟨_, rfl, ?_⟩
      rw [sel_step _ _ _ _ hpi, if_pos e, List.map_append]
      exact this
    · have e : ¬ pend[i].1 = (sec : Int) := by simpa using z
      show LAt d _ _ _
      rw [sel_step _ _ _ _ hpi, if_neg e, List.append_nil]
      exact x'
  rw [lp, List.take_length] at x'
  obtain ⟨acc, k1, k2, k3⟩ := x'
  have hl1 := k3.keep _ _ upd_same (by intro h; cases h)
  have la := k2.len
  rw [List.length_map] at la
  have lsel := sel_len (sec : Int) pend
  have few := G.few
  refine ⟨l1, d, [x], acc, rfl, rfl, hl1, k1, Nat.le_of_lt (sl (by show 1 + _ ≤ _; omega)), fun l nl => ?_⟩
  have g2 := g1.trans k3
  have nl0 := g2.dom _ nl
  have g3 : Chg [] [] H (upd H' l (.lst ([x] ++ acc))) := g2.trans (Chg.mk0 nl _)
  have fx3 := fx.mono g3.tups
  have fa3 := k2.mono (Chg.mk0 (fp := []) nl (.lst ([x] ++ acc))).tups
  have hl3 : upd H' l (.lst ([x] ++ acc)) l = some (.lst (x :: acc)) := upd_same
  generalize upd H' l (.lst ([x] ++ acc)) = H3 at g3 fx3 fa3 hl3
  generalize hsl : sel (sec : Int) pend = ws at *
  generalize hw0 : dur.getD sec [] = w0 at *
  have hW0 : w0.length = W := by
    rw [← hw0, List.getD_eq_getElem?_getD, List.getElem?_eq_getElem hs]
    exact G.gdur _ (List.getElem_mem hs)
  have hWs : ∀ w ∈ ws, w.length = W := by rw [← hsl]; exact sel_mem G.gpend
  have hout : outsOf t dur pend sec = lefts t w0 ws := by unfold outsOf; rw [hsl, hw0]
  rw [hout] at q
  refine ⟨_, rfl, t, rfl, ?_⟩
  cases t with
  | false =>
    refine iteT ⟨_, rfl, q _ l nl0 ⟨x :: acc, hl3, ?_, g3⟩⟩
    rw [lefts_false]
    exact .cons fx3 fa3
  | true =>
  refine iteF ?_
  refine ⟨Nat.zero_le _, fun tn ntn => ?_⟩
  have ntn0 := g3.dom _ ntn
  have ntl : tn ≠ l := fun z => by rw [z, hl3] at ntn; cases ntn
  have hl4 := (Chg.mk0 (fp := []) ntn (.lst [])).keep _ _ hl3 (by intro h; cases h)
  refine ⟨_, rfl, _, rfl, 1, rfl, l, x :: acc, rfl, SqL.of hl4, fun l2 nl2 => ?_⟩
  rw [cutV_one]
  have fW : FtAll H3 ((w0 :: ws).map wd) (x :: acc) := .cons fx3 fa3
  have hl5 := (Chg.mk0 (fp := []) nl2 (.lst acc)).keep _ _ hl4 (by intro h; cases h)
  have nl2' := (Chg.mk0 (fp := []) ntn (.lst [])).dom _ nl2
  have ntl2 : tn ≠ l2 := fun z => by rw [z] at nl2; rw [upd_same] at nl2; cases nl2
  have L0 : LAt tn H3 ((((w0 :: ws).zip ws).take 0).flatMap tornP |>.map wd) (upd (upd H3 tn (.lst [])) l2 (.lst acc)) := (LAt.start ntn).keep (Chg.mk0 nl2 _)
  refine ⟨l, l2, x :: acc, acc, rfl, SqL.of hl5, SqL.of upd_same, for_it (walk_zip (n := acc.length) (by rw [List.length_cons]; omega))
    (fun i σ H' => ∃ x7 x8, σ = [some (.ref p), some (.int (sec : Int)), some (.bl true), some (.ref c), some (.ref pp), some (.ref l), some (.ref tn), x7, x8, none, none, none] ∧ H' l = some (.lst (x :: acc)) ∧ H' l2 = some (.lst acc) ∧
      LAt tn H3 ((((w0 :: ws).zip ws).take i).flatMap tornP |>.map wd) H') ⟨none, none, rfl, hl5, upd_same, L0⟩ (fun i σ H' _ ⟨_, _, _, e1, e2, _⟩ => ⟨SqL.of e1, SqL.of e2⟩) ?_ ?_⟩
  · rintro i y σ H4 H5 hi ⟨x7, x8, rfl, e1, e2, L4⟩ ⟨T, a, b, rfl, nT, rfl, ea, eb⟩
    have hiw : i < ws.length := by omega
    obtain ⟨a', ea', fa⟩ := fW.get (i := i) (d := wd ((w0 :: ws)[i]'(by rw [List.length_cons]; omega))) (by rw [List.getElem?_map, List.getElem?_eq_getElem (by rw [List.length_cons]; omega)]; rfl)
    have ea : (x :: acc)[i]? = some a := ea
    have eb : acc[i]? = some b := eb
    rw [ea] at ea'
    cases ea'
    obtain ⟨b', eb', fb⟩ := fa3.get (i := i) (d := wd ws[i]) (by rw [List.getElem?_map, List.getElem?_eq_getElem hiw]; rfl)
    rw [eb] at eb'
    cases eb'
    obtain ⟨oa, rfl, ha⟩ := fa.ofWd
    obtain ⟨nb, rfl, hb⟩ := fb.ofWd
    have hpair : ((w0 :: ws).zip ws)[i]? = some ((w0 :: ws)[i]'(by rw [List.length_cons]; omega), ws[i]) := by
      rw [List.getElem?_zip_eq_some]
      exact ⟨List.getElem?_eq_getElem _, List.getElem?_eq_getElem hiw⟩
    generalize hwa : (w0 :: ws)[i]'(by rw [List.length_cons]; omega) = wa at *
    generalize hwb : ws[i] = wb at *
    have la' : wa.length = W := by
      rw [← hwa]
      have := List.getElem_mem (l := w0 :: ws) (n := i) (by rw [List.length_cons]; omega)
      rcases List.mem_cons.mp this with e | e
      · rw [e]; exact hW0
      · exact hWs _ e
    have lb' : wb.length = W := by rw [← hwb]; exact hWs _ (List.getElem_mem hiw)
    have gT : Chg [] [] H4 (upd H4 T (.tup [.ref oa, .ref nb])) := Chg.mk0 nT _
    have e1' := gT.keep _ _ e1 (by intro h; cases h)
    have e2' := gT.keep _ _ e2 (by intro h; cases h)
    have L5 := L4.keep gT
    have ha5 := (L4.chg.trans gT).tups _ _ ha
    have hb5 := (L4.chg.trans gT).tups _ _ hb
    refine ⟨T, _, rfl, SqT.of upd_same, rfl, _, _, rfl, _, _, rfl, rfl, ?_⟩
    generalize upd H4 T (.tup [.ref oa, .ref nb]) = H5 at *
    obtain ⟨tacc, t1, t2, t3⟩ := id L5
    refine ⟨_, rfl, .inl ⟨rfl, _, SqL.of t1⟩, _, rfl, oa, _, rfl, .inr (SqT.of ha5), _, rfl, by rw [List.length_map]; have := G.w2; omega, by rw [List.length_map]; have := G.w2; omega, fun d2 nd2 => ?_⟩
    rw [show ((((wa.map V.int).length : Nat) : Int)).toNat = wa.length by rw [List.length_map]; omega]
    refine it_loop (n := wa.length) (fun k H6 => LAt d2 H5 (((List.range k).map fun k => wb.take k ++ wa.drop k).map wd) H6) (LAt.start nd2) (fun H6 L6 => ⟨Nat.le_refl _, ?_⟩) (fun k H6 hk _ => hk) ?_
    rotate_left
    · intro k y H6 H7 hk L6 yl
      obtain ⟨rfl, rfl⟩ := yl
      have lk : ((List.range k).map fun k => wb.take k ++ wa.drop k).length < sizeLine := by rw [List.length_map, List.length_range]; exact sl (by have := G.w2; omega)
      have ha6 := L6.chg.tups _ _ ha5
      have hb6 := L6.chg.tups _ _ hb5
      have fin : ∀ (y : V) (H8 : Hp), Chg [] [] H7 H8 → Ft H8 (wd (wb.take k ++ wa.drop k)) y → ∃ acc, H8 d2 = some (.lst acc) ∧ acc.length < sizeLine ∧ LAt d2 H5 (((List.range (k + 1)).map fun k => wb.take k ++ wa.drop k).map wd) (upd H8 d2 (.lst (acc ++ [y]))) := by
        intro y H8 c8 f8
        have := L6.push nd2 c8 f8 (by rw [List.length_map]; exact lk)
        rw [List.range_succ, List.map_append, List.map_append]
        exact this
      refine ⟨rfl, yes (iteT ?_)⟩
      refine ⟨_, rfl, _, rfl, _, rfl, nb, _, rfl, SqT.of hb6, fun z => ?_, fun _ t9 nt9 => ?_⟩
      · exfalso
        have := z.2
        rw [Int.zero_add, HT.sIx_nat, List.length_map] at this
        omega
      have e9 : cutV (wb.map V.int) none (some (0 + (k : Int))) = (wb.take k).map V.int := by
        rw [Int.zero_add, cutV_take _ _ (by rw [List.length_map]; omega), List.map_take]
      rw [e9]
      have g9 : Chg [] [] H7 (upd H7 t9 (.tup ((wb.take k).map V.int))) := Chg.mk0 nt9 _
      have ha9 := g9.tups _ _ ha6
      have h9 : upd H7 t9 (.tup ((wb.take k).map V.int)) t9 = some (.tup ((wb.take k).map V.int)) := upd_same
      generalize upd H7 t9 (.tup ((wb.take k).map V.int)) = H8 at *
      refine ⟨_, rfl, _, rfl, _, rfl, oa, _, rfl, SqT.of ha9, fun z => ?_, fun z t10 nt10 => ?_⟩
      · have k0 : k = 0 := by
          have := z.1
          rw [Int.zero_add, HT.sIx_nat, List.length_map] at this
          omega
        refine ⟨t9, oa, _, _, rfl, rfl, SqT.of h9, SqT.of ha9, Nat.le_of_lt (sl (by rw [List.length_map, List.length_map, List.length_take]; have := G.w2; omega)), fun _ => ?_, fun z2 => ?_, fun z2 => ?_⟩
        · refine fin _ _ g9 ?_
          rw [k0]
          exact Ft.mkWd ha9
        · exact absurd (by rw [k0]; rfl) z2
        · exact absurd (by rw [k0]; rfl) z2
      · have k0 : k ≠ 0 := fun e => z (by
          rw [e]
          refine ⟨?_, HT.sIx_none _ _⟩
          show HT.sIx _ 0 (some (0 + ((0 : Nat) : Int))) = 0
          rw [Int.zero_add, HT.sIx_nat]; exact Nat.zero_min _)
        have e10 : cutV (wa.map V.int) (some (0 + (k : Int))) none = (wa.drop k).map V.int := by
          rw [Int.zero_add, cutV_drop, List.map_drop]
        rw [e10]
        have g10 : Chg [] [] H8 (upd H8 t10 (.tup ((wa.drop k).map V.int))) := Chg.mk0 nt10 _
        have h10 := g10.tups _ _ h9
        refine ⟨t9, t10, _, _, rfl, rfl, SqT.of h10, SqT.of upd_same, Nat.le_of_lt (sl (by rw [List.length_map, List.length_map, List.length_take, List.length_drop]; have := G.w2; omega)), fun z2 => ?_, fun _ z2 => ?_, fun _ _ p3 np3 => ?_⟩
        · exfalso
          have := congrArg List.length z2
          rw [List.length_map, List.length_take, List.length_nil] at this
          omega
        · exfalso
          have := congrArg List.length z2
          rw [List.length_map, List.length_drop, List.length_nil] at this
          omega
        · refine fin _ _ ((g9.trans g10).trans (Chg.mk0 np3 _)) (Ft.mkWd ?_)
          rw [← List.map_append]
          exact upd_same
    · obtain ⟨acc6, u1, u2, u3⟩ := L6
      have t1' := u3.keep _ _ t1 (by intro h; cases h)
      have lt := t2.len
      have lu := u2.len
      have lz : ((((w0 :: ws).zip ws).take i).flatMap tornP |>.map wd).length ≤ 1000000 := by
        rw [List.length_map]
        exact torn_le (W := W) _ (fun q hq => by
          have := List.mem_of_mem_take hq
          have := List.of_mem_zip this
          rcases List.mem_cons.mp this.1 with e | e
          · rw [e]; omega
          · exact Nat.le_of_eq (hWs _ e)) (by rw [List.length_take, List.length_zip, List.length_cons]; omega) G.w2
      refine ⟨tn, d2, tacc, acc6, rfl, rfl, t1', u1, ?_, ?_⟩
      · exact Nat.le_of_lt (sl (by rw [lt, lu]; simp only [List.length_map, List.length_range] at lz ⊢; have := G.w2; omega))
      · have L6' := L5.keep u3
        have ntl' : tn ≠ l := ntl
        refine ⟨_, _, rfl, (upd_ne ntl'.symm).trans (u3.keep _ _ e1' (by intro h; cases h)), (upd_ne ntl2.symm).trans (u3.keep _ _ e2' (by intro h; cases h)), ?_⟩
        rw [List.take_add_one, hpair, List.flatMap_append, List.map_append]
        refine L6'.put ntn ((t2.mono u3.tups).app ?_)
        have : ([((w0 :: ws)[i]'(by rw [List.length_cons]; omega), ws[i])] : List (Ws × Ws)).flatMap tornP = tornP (wa, wb) := by rw [hwa, hwb]; simp
        show FtAll _ ((([(wa, wb)] : List (Ws × Ws)).flatMap tornP).map wd) _
        rw [List.flatMap_cons, List.flatMap_nil, List.append_nil]
        exact u2
  · rintro σ H4 ⟨x7, x8, rfl, e1, e2, L4⟩
    have lw : acc.length = ws.length := la
    obtain ⟨tacc, t1, t2, t3⟩ := L4
    refine ⟨_, rfl, _, rfl, _, rfl, _, rfl, l, x :: acc, rfl, SqL.of e1, fun p3 np3 => ?_⟩
    rw [cutV_last _ (by intro z; cases z)]
    have g7 : Chg [] [] H4 (upd H4 p3 (.lst ((x :: acc).drop ((x :: acc).length - 1)))) := Chg.mk0 np3 _
    have t1' := g7.keep _ _ t1 (by intro h; cases h)
    have hp3 : upd H4 p3 (.lst ((x :: acc).drop ((x :: acc).length - 1))) p3 = some (.lst ((x :: acc).drop ((x :: acc).length - 1))) := upd_same
    generalize upd H4 p3 (.lst ((x :: acc).drop ((x :: acc).length - 1))) = H5 at *
    have lt := t2.len
    have lz : ((((w0 :: ws).zip ws).take acc.length).flatMap tornP |>.map wd).length ≤ 1000000 := by
      rw [List.length_map]
      exact torn_le (W := W) _ (fun q hq => by
        have := List.mem_of_mem_take hq
        have := List.of_mem_zip this
        rcases List.mem_cons.mp this.1 with e | e
        · rw [e]; omega
        · exact Nat.le_of_eq (hWs _ e)) (by rw [List.length_take, List.length_zip, List.length_cons]; omega) G.w2
    refine ⟨tn, p3, _, _, rfl, rfl, t1', hp3, Nat.le_of_lt (sl (by rw [lt, List.length_drop, List.length_cons]; omega)), fun r nr => ?_⟩
    have g8 := (g3.trans t3).trans g7
    refine q _ r (g8.dom _ nr) ⟨_, upd_same, ?_, g8.trans (Chg.mk0 nr _)⟩
    have tl : Tups H3 (upd H5 r (.lst (tacc ++ (x :: acc).drop ((x :: acc).length - 1)))) := ((t3.trans g7).trans (Chg.mk0 (fp := []) nr _)).tups
    rw [← torn_all G.w1 ws w0 hW0 hWs, List.map_append]
    refine FtAll.app ?_ ?_
    · have := t2.mono (g7.trans (Chg.mk0 (fp := []) nr (.lst (tacc ++ (x :: acc).drop ((x :: acc).length - 1))))).tups
      rw [List.take_of_length_le (by rw [List.length_zip, List.length_cons, lw]; omega)] at this
      exact this
    · have := (fW.mono tl).drop acc.length
      rw [List.length_cons, Nat.add_sub_cancel, ← lw, List.map_drop]
      exact this
end
end SG
namespace SG
open PySem L2
def pr (p : RC) : PyData := .tuple [wd p.1, ct p.2]
def ch (q : Int × Ws) : PyData := .tuple [.int q.1, wd q.2]
theorem Ft.two {H : Hp} {d e : PyData} {v : V} (h : Ft H (.tuple [d, e]) v) : ∃ p x y, v = .ref p ∧ H p = some (.tup [x, y]) ∧ Ft H d x ∧ Ft H e y := by
  obtain ⟨q, xs, rfl, h1, h2⟩ := Ft.tup h
  match xs, h2 with
  | [x, y], h2 => exact ⟨q, x, y, rfl, h1, h2.un.1, h2.un.2.un.1⟩
  | [], h2 => exact h2.no2.elim
  | [_], h2 => exact h2.un.2.no2.elim
  | _ :: _ :: _ :: _, h2 => exact h2.un.2.un.2.no1.elim
/-- t + (y,) -/
theorem cat_one {K : PySem.W.Frag} {H : Hp} {a : Addr} {xs : List V} {ds : List PyData} {y : V} {e : PyData} {Q : VK} (ha : H a = some (.tup xs)) (hd : FtAll H ds xs) (hy : Ft H e y) (hl : xs.length ≤ 1000000)
    (k : ∀ v H', Chg [] [] H H' → Ft H' (.tuple (ds ++ [e])) v → Q v H') : ([y] : List V).length ≤ sizeLine ∧ ∀ t, H t = none → rCatA K (.ref a) (.ref t) (upd H t (.tup [y])) Q := by
  refine ⟨by show 1 ≤ sizeLine; decide, fun t nt => ?_⟩
  have g1 : Chg [] [] H (upd H t (.tup [y])) := Chg.mk0 nt _
  have ha1 := g1.tups _ _ ha
  refine ⟨a, t, xs, [y], rfl, rfl, SqT.of ha1, SqT.of upd_same, Nat.le_of_lt (sl (by show xs.length + 1 ≤ _; omega)), fun z => ?_, (fun _ z => by cases z), fun _ _ p np => ?_⟩
  · refine k _ _ g1 ?_
    have : ds = [] := by
      have := hd.len
      rw [z] at this
      exact List.eq_nil_of_length_eq_zero this.symm
    rw [this]
    exact Ft.mkTup upd_same (.cons (hy.mono g1.tups) .nil)
  · have g2 := g1.trans (Chg.mk0 np (.tup (xs ++ [y])))
    exact k _ _ g2 (Ft.mkTup upd_same ((hd.mono g2.tups).app (.cons (hy.mono g2.tups) .nil)))
def spChoices : Sp := fun vs H Q _ => ∃ (v : V) (s : Nat) (t : Bool) (dur : List Ws) (pend : List (Int × Ws)) (W : Nat), vs = [v, .int (s : Int), .bl t] ∧ Ft H (snap dur pend) v ∧ Good W dur pend ∧ s < dur.length ∧
  ∀ H', Chg [] [] H H' → Q (.int ((outsOf t dur pend s).length : Int)) H'
def spImage : Sp := fun vs H Q _ => ∃ (v r : V) (t : Bool) (dur : List Ws) (pend : List (Int × Ws)) (W : Nat) (row : List Int), vs = [v, .bl t, r] ∧ Ft H (snap dur pend) v ∧ Good W dur pend ∧ Ft H (wd row) r ∧ row.length = dur.length ∧ dur.length ≤ 1000 ∧
  (∀ (i : Nat) (c : Int), row[i]? = some c → 0 ≤ c ∧ c.toNat < (outsOf t dur pend i).length) ∧ ∀ v' H', Chg [] [] H H' → Ft H' (ct (imgOf (outs t dur pend dur.length) row)) v' → Q v' H'
def spRows : Sp := fun vs H Q _ => ∃ (v : V) (t : Bool) (dur : List Ws) (pend : List (Int × Ws)) (W : Nat), vs = [v, .bl t] ∧ Ft H (snap dur pend) v ∧ Good W dur pend ∧ dur.length ≤ 1000 ∧ (allL (outs t dur pend dur.length)).length ≤ 1000000 ∧
  ∀ H' l, H l = none → LAt l H ((allL (outs t dur pend dur.length)).map fun p => wd p.1) H' → Q (.ref l) H'
def spFirsts : Sp := fun vs H Q _ => ∃ (v : V) (s : Nat) (t : Bool) (dur : List Ws) (pend : List (Int × Ws)) (W : Nat), vs = [v, .int (s : Int), .bl t] ∧ Ft H (snap dur pend) v ∧ Good W dur pend ∧ s < dur.length ∧
  ∀ H' l, H l = none → LAt l H ((firsts (outsOf t dur pend s)).map ch) H' → Q (.ref l) H'
def spDistinct : Sp := fun vs H Q _ => ∃ (v : V) (t : Bool) (dur : List Ws) (pend : List (Int × Ws)) (W : Nat), vs = [v, .bl t] ∧ Ft H (snap dur pend) v ∧ Good W dur pend ∧ dur.length ≤ 6 ∧ (allL (outs t dur pend dur.length)).length ≤ 1000000 ∧
  ∀ H' l, H l = none → LAt l H ((firstsL (outs t dur pend dur.length)).map pr) H' → Q (.ref l) H'
theorem imgOf_outs {t : Bool} {dur : List Ws} {pend : List (Int × Ws)} : ∀ (n : Nat) (row : List Int), row.length = n → imgOf (outs t dur pend n) row = (List.range n).map fun i => (outsOf t dur pend i).getD (row.getD i 0).toNat [] := fun n row h => by
  apply List.ext_getElem?
  intro i
  unfold imgOf outs
  rw [List.getElem?_zipWith, List.getElem?_map, List.getElem?_map]
  by_cases hi : i < n
  · rw [List.getElem?_range hi, List.getElem?_eq_getElem (by omega : i < row.length)]
    have e : row.getD i 0 = row[i]'(by omega) := by rw [List.getD_eq_getElem?_getD, List.getElem?_eq_getElem (by omega : i < row.length)]; rfl
    show some ((outsOf t dur pend i).getD (row[i]'(by omega)).toNat []) = some ((outsOf t dur pend i).getD (row.getD i 0).toNat [])
    rw [e]
  · rw [List.getElem?_eq_none (by rw [List.length_range]; omega)]; rfl
section
variable {P : Program} {w : World} {K : PySem.W.Frag} {mg : Str → Option Value} {base : Heap} {D : Defs}
theorem sc_choices : FnScope ["snapshot", "sector", "tears"] ["snapshot", "sector", "tears"] (defScope s_choices) := ⟨rfl, rfl, rfl, by decide +kernel, rfl, by decide +kernel, by decide +kernel⟩
theorem ok_choices (O : Ok P K mg D) : FnOk P w K mg base CX0 2 D.fchoices D.dchoices ["snapshot", "sector", "tears"] spChoices := by
  have G_outcomes : FnOk P w K mg base CX0 1 D.foutcomes D.doutcomes ["snapshot", "sector", "tears"] spOutc := ok_outcomes O
  refine O.Fchoices.ok sc_choices (fun vs H Q E h => ?_) (fun cdv A outer s H vs Q E hr h => ?_)
  · obtain ⟨v, s, t, dur, pend, W, rfl, _⟩ := h
    rfl
  obtain ⟨v, sec, t, dur, pend, W, rfl, hv, G, hs, q⟩ := h
  have nd := sc_choices.nd
  have hu := hu_of hr
  have bk : ∀ own scope, blkC ["snapshot", "sector", "tears"] (defScope s_choices) scope own = true → BlkOk ["snapshot", "sector", "tears"] (defScope s_choices) scope own := fun own scope h => blkOk_by h
  refine ⟨_, (pss_one (ps_ret (pe_callB (r := rLenQ K) call_lenK (by rfl) O.zlen PySem.boot_len (pa_cons (pe_call G_outcomes (hr.mono (by omega)) rfl O.moutcomes O.Foutcomes.kp O.boutcomes .nil pass0 (pa_cons (pv 0) (pa_cons (pv 1) (pa_cons (pv 2) pa_nil)))) pa_nil)))), ?_⟩
  refine ⟨_, rfl, _, rfl, _, rfl, v, sec, t, dur, pend, W, rfl, hv, G, hs, fun H' l nl L => ?_⟩
  obtain ⟨acc, k1, k2, k3⟩ := L
  refine ⟨l, acc, rfl, .inl (SqL.of k1), ?_⟩
  rw [k2.len, List.length_map]
  exact q _ k3
theorem sc_image : FnScope ["snapshot", "tears", "row", "sector", "choice"] ["snapshot", "tears", "row"] (defScope s_image) := ⟨rfl, rfl, rfl, by decide +kernel, rfl, by decide +kernel, by decide +kernel⟩
theorem ok_image (O : Ok P K mg D) : FnOk P w K mg base CX0 2 D.fimage D.dimage ["snapshot", "tears", "row"] spImage := by
  have G_outcomes : FnOk P w K mg base CX0 1 D.foutcomes D.doutcomes ["snapshot", "sector", "tears"] spOutc := ok_outcomes O
  refine O.Fimage.ok sc_image (fun vs H Q E h => ?_) (fun cdv A outer s H vs Q E hr h => ?_)
  · obtain ⟨v, r, t, dur, pend, W, row, rfl, _⟩ := h
    rfl
  obtain ⟨v, r, t, dur, pend, W, row, rfl, hv, G, hrow, hl, hd, hc, q⟩ := h
  have nd := sc_image.nd
  have hu := hu_of hr
  have bk : ∀ own scope, blkC ["snapshot", "tears", "row", "sector", "choice"] (defScope s_image) scope own = true → BlkOk ["snapshot", "tears", "row", "sector", "choice"] (defScope s_image) scope own := fun own scope h => blkOk_by h
  refine ⟨_, (pss_one (ps_ret (pe_callTy (r := rTupOf K) call_tupK (by rfl) O.ztuple PyProof.Rows.boot_tuple (pa_cons (pe_lc (own := [("sector", 3), ("choice", 4)]) (g := gTup K 2 (gCons (gName 3) (gCons (gName 4) gNil))) (by rfl) nd (pi_enumT (by rfl) O.zenumerate (pa_cons (pv 2) pa_nil)) (bk [("sector", 3), ("choice", 4)] _ (by decide +kernel)) (fun _ _ _ _ _ => (pg_tup rfl (pgs_cons (pg_name (i := 3) nd rfl (Or.inl rfl)) (pgs_cons (pg_name (i := 4) nd rfl (Or.inl rfl)) pgs_nil)))) (fun _ _ _ _ _ => pts_nil) (fun _ _ _ _ _ => (pe_ix (r := rIxL K) ix_list (pe_call G_outcomes (hr.mono (by omega)) rfl O.moutcomes O.Foutcomes.kp O.boutcomes .nil pass0 (pa_cons (pv 0) (pa_cons (pv 3) (pa_cons (pv 1) pa_nil)))) (pv 4) (fun _ _ => rfl)))) pa_nil)))), ?_⟩
  obtain ⟨a, rfl, ha⟩ := hrow.ofWd
  refine ⟨_, rfl, a, _, rfl, SqT.of ha, fun d nd1 => ?_⟩
  refine it_loop (n := row.length) (fun i H' => LAt d H (((List.range i).map fun i => (outsOf t dur pend i).getD (row.getD i 0).toNat []).map wd) H') (LAt.start nd1)
    (fun H' L => ⟨⟨_, SqT.of (L.chg.tups _ _ ha), by rw [List.length_map]; exact Nat.le_refl _⟩, ?_⟩) (fun i H' hi L => ⟨_, .int row[i], SqT.of (L.chg.tups _ _ ha), by rw [List.getElem?_map, List.getElem?_eq_getElem hi]; rfl⟩) ?_
  rotate_left
  · rintro i y H' H'' hi L ⟨T, x, rfl, nT, rfl, yy⟩
    have hx := yy _ (SqT.of (L.chg.tups _ _ ha))
    rw [List.getElem?_map, List.getElem?_eq_getElem hi] at hx
    cases hx
    have gT : Chg [] [] H' (upd H' T (.tup [.int ((i : Nat) : Int), .int row[i]])) := Chg.mk0 nT _
    refine ⟨T, _, rfl, SqT.of upd_same, rfl, _, _, rfl, _, _, rfl, rfl, rfl, yes (iteT ?_)⟩
    refine ⟨_, rfl, _, rfl, _, rfl, v, i, t, dur, pend, W, rfl, hv.mono (L.chg.trans gT).tups, G, by omega, fun H3 l nl L3 => ?_⟩
    obtain ⟨acc, k1, k2, k3⟩ := L3
    obtain ⟨c0, c1⟩ := hc i row[i] (List.getElem?_eq_getElem hi)
    obtain ⟨x, hx, fx⟩ := k2.get (i := row[i].toNat) (d := wd ((outsOf t dur pend i).getD row[i].toNat [])) (by rw [List.getElem?_map, List.getElem?_eq_getElem c1, List.getD_eq_getElem?_getD, List.getElem?_eq_getElem c1]; rfl)
    refine ⟨_, rfl, l, acc, _, x, rfl, rfl, SqL.of k1, at_of (j := row[i].toNat) (by omega) hx, ?_⟩
    have := L.push (e := wd ((outsOf t dur pend i).getD row[i].toNat [])) nd1 (gT.trans k3) fx (by rw [List.length_map, List.length_map, List.length_range]; exact sl (by omega))
    rw [List.range_succ, List.map_append, List.map_append]
    have e : row.getD i 0 = row[i] := by rw [List.getD_eq_getElem?_getD, List.getElem?_eq_getElem hi]; rfl
    show ∃ acc, _ ∧ _ ∧ LAt d H (_ ++ [wd ((outsOf t dur pend i).getD (row.getD i 0).toNat [])]) _
    rw [e]
    exact this
  · obtain ⟨acc, k1, k2, k3⟩ := L
    refine ⟨d, acc, rfl, .inl ⟨SqL.of k1, fun p np => ?_⟩⟩
    have g := Chg.mk0 (fp := []) np (.tup acc)
    refine q _ _ (k3.trans g) ?_
    rw [imgOf_outs _ _ hl, ← hl]
    exact Ft.mkTup upd_same (k2.mono g.tups)
end
end SG
namespace SG
open PySem L2
/-- the part of a product behind i whole turns and j more -/
def gpart (found : List RC) (qs : List (Int × Ws)) (i j : Nat) : List RC := grow (found.take i) qs ++ (match found[i]? with | some p => (qs.take j).map (ext p) | none => [])
theorem gpart_zero (found : List RC) (qs : List (Int × Ws)) (i : Nat) : gpart found qs i 0 = grow (found.take i) qs := by
  unfold gpart
  cases found[i]? <;> simp
theorem gpart_next (found : List RC) (qs : List (Int × Ws)) (i j : Nat) (p : RC) (q : Int × Ws) (hp : found[i]? = some p) (hq : qs[j]? = some q) : gpart found qs i (j + 1) = gpart found qs i j ++ [ext p q] := by
  unfold gpart
  rw [hp]
  show _ ++ (qs.take (j + 1)).map (ext p) = (_ ++ (qs.take j).map (ext p)) ++ [ext p q]
  rw [List.take_add_one, hq, List.map_append, List.append_assoc]; rfl
theorem gpart_full (found : List RC) (qs : List (Int × Ws)) (i : Nat) (p : RC) (hp : found[i]? = some p) : gpart found qs i qs.length = grow (found.take (i + 1)) qs := by
  unfold gpart grow
  rw [hp, List.take_add_one, hp, List.flatMap_append, List.take_length]
  simp
theorem gpart_len (found : List RC) (qs : List (Int × Ws)) (i j : Nat) (hi : i < found.length) (hj : j ≤ qs.length) : (gpart found qs i j).length ≤ found.length * qs.length := by
  unfold gpart
  rw [List.getElem?_eq_getElem hi, List.length_append, grow_len, List.length_take, List.length_map, List.length_take]
  have : i * qs.length + qs.length ≤ found.length * qs.length := by
    rw [← Nat.succ_mul]; exact Nat.mul_le_mul_right _ hi
  have e : min i found.length = i := by omega
  rw [e]
  omega
theorem nks_map {α : Type} (f : α → PyData) : ∀ xs : List α, nks (xs.map f) = xs.map fun x => nk (f x)
  | [] => rfl
  | x :: r => by rw [List.map_cons, nks, nks_map f r]; rfl
theorem nk_wd (ws : Ws) : nk (wd ws) = .tup (ws.map fun i => .num i) := by
  unfold wd
  rw [nk, nks_map]; rfl
theorem nums_inj : ∀ {a b : Ws}, (a.map fun i => NestedKey.num i) = (b.map fun i => NestedKey.num i) → a = b
  | [], [], _ => rfl
  | x :: a, y :: b, h => by
    rw [List.map_cons, List.map_cons] at h
    injection h with h1 h2
    injection h1 with h1
    rw [h1, nums_inj h2]
  | [], _ :: _, h => by cases h
  | _ :: _, [], h => by cases h
theorem nk_wd_inj {a b : Ws} (h : nk (wd a) = nk (wd b)) : a = b := by
  rw [nk_wd, nk_wd] at h
  injection h with h
  exact nums_inj h
theorem nk_ct (cs : List Ws) : nk (ct cs) = .tup (cs.map fun c => nk (wd c)) := by
  unfold ct
  rw [nk, nks_map]
theorem nk_ct_inj : ∀ {a b : List Ws}, nk (ct a) = nk (ct b) → a = b := by
  intro a b h
  rw [nk_ct, nk_ct] at h
  injection h with h
  induction a generalizing b with
  | nil => cases b with
    | nil => rfl
    | cons _ _ => cases h
  | cons x a ih => cases b with
    | nil => cases h
    | cons y b =>
      rw [List.map_cons, List.map_cons] at h
      injection h with h1 h2
      rw [nk_wd_inj h1, ih h2]
theorem nk_depth_wd (ws : Ws) : (nk (wd ws)).depth ≤ 1 := by
  rw [nk_wd, NestedKey.depth]
  have : ∀ ws : Ws, NestedKey.depthAll (ws.map fun i => NestedKey.num i) = 0 := by
    intro ws
    induction ws with
    | nil => rfl
    | cons a r ih => rw [List.map_cons, NestedKey.depthAll, ih]; rfl
  rw [this]; decide
theorem nk_depth_ct (cs : List Ws) : (nk (ct cs)).depth ≤ 2 := by
  rw [nk_ct, NestedKey.depth]
  have : ∀ cs : List Ws, NestedKey.depthAll (cs.map fun c => nk (wd c)) ≤ 1 := by
    intro cs
    induction cs with
    | nil => exact Nat.zero_le _
    | cons a r ih => rw [List.map_cons, NestedKey.depthAll]; exact Nat.max_le.mpr ⟨nk_depth_wd a, ih⟩
  have := this cs
  omega
/-- the rows of a dict stand for items, by their keys -/
theorem lkN_map {α : Type} {kvs : List NRow} {xs : List α} {f : α → PyData} {g : α → V} (h : kvs.map (fun p => (p.1, p.2.2)) = xs.map fun x => (f x, g x)) (k : NestedKey) : (lkN kvs k).isSome = true ↔ ∃ x ∈ xs, nk (f x) = k := by
  unfold lkN
  rw [Option.isSome_map, List.find?_isSome]
  constructor
  · rintro ⟨p, hp, e⟩
    have : (p.1, p.2.2) ∈ xs.map fun x => (f x, g x) := by rw [← h]; exact List.mem_map.mpr ⟨p, hp, rfl⟩
    obtain ⟨x, hx, ex⟩ := List.mem_map.mp this
    have e1 : f x = p.1 := congrArg Prod.fst ex
    exact ⟨x, hx, by rw [e1]; simpa using e⟩
  · rintro ⟨x, hx, e⟩
    have : (f x, g x) ∈ kvs.map fun p => (p.1, p.2.2) := by rw [h]; exact List.mem_map.mpr ⟨x, hx, rfl⟩
    obtain ⟨p, hp, ep⟩ := List.mem_map.mp this
    have e1 : p.1 = f x := congrArg Prod.fst ep
    exact ⟨p, hp, by rw [e1]; simpa using e⟩
section
variable {P : Program} {w : World} {K : PySem.W.Frag} {mg : Str → Option Value} {base : Heap} {D : Defs}
theorem sc_rows : FnScope ["snapshot", "tears", "found", "sector", "many", "row", "choice"] ["snapshot", "tears"] (defScope s_rows) := ⟨rfl, rfl, rfl, by decide +kernel, rfl, by decide +kernel, by decide +kernel⟩
theorem ok_rows (O : Ok P K mg D) : FnOk P w K mg base CX0 3 D.frows D.drows ["snapshot", "tears"] spRows := by
  have G_choices : FnOk P w K mg base CX0 2 D.fchoices D.dchoices ["snapshot", "sector", "tears"] spChoices := ok_choices O
  refine O.Frows.ok sc_rows (fun vs H Q E h => ?_) (fun cdv A outer s H vs Q E hr h => ?_)
  · obtain ⟨v, t, dur, pend, W, rfl, _⟩ := h
    rfl
  obtain ⟨v, t, dur, pend, W, rfl, hv, G, hd, hbig, q⟩ := h
  have nd := sc_rows.nd
  have hu := hu_of hr
  have bk : ∀ own scope, blkC ["snapshot", "tears", "found", "sector", "many", "row", "choice"] (defScope s_rows) scope own = true → BlkOk ["snapshot", "tears", "found", "sector", "many", "row", "choice"] (defScope s_rows) scope own := fun own scope h => blkOk_by h
  refine ⟨_, (pss_cons (ps_set (i := 2) nd rfl (Or.inl rfl) (pe_lst (pa_cons (pe_tup pa_nil) pa_nil)))
    (pss_cons (ps_for PassesOwn.never rfl (pi_range1 (by rfl) O.zrange (pa_cons (pe_callB (r := rLenQ K) call_lenK (by rfl) O.zlen PySem.boot_len (pa_cons (pe_ix (r := rIxT K) ix_tup (pv 0) pe_int (fun _ _ => rfl)) pa_nil)) pa_nil)) (pg_name (i := 3) nd rfl (Or.inl rfl)) (pss_cons (ps_set (i := 4) nd rfl (Or.inr rfl) (pe_call G_choices (hr.mono (by omega)) rfl O.mchoices O.Fchoices.kp O.bchoices .nil pass0 (pa_cons (pv 0) (pa_cons (pv 3) (pa_cons (pv 1) pa_nil)))))
    (pss_one (ps_setLc2 (i := 2) (own := [("row", 5), ("choice", 6)]) (vs1 := [6]) (g := gName 5) (g1 := gName 6) (by rfl) nd rfl rfl (sw_true rfl rfl rfl (by decide +kernel)) (pi_listK (K := K) (pv 2)) (bk [("row", 5), ("choice", 6)] _ (by decide +kernel)) (by decide) (fun _ _ _ _ _ => (pg_name (i := 5) nd rfl (Or.inl rfl))) (fun _ _ _ _ _ => pts_nil) (fun _ _ _ _ _ => (pi_range1 (by rfl) O.zrange (pa_cons (pv 4) pa_nil))) (fun _ _ _ _ _ => (pg_name (i := 6) nd rfl (Or.inl rfl))) (fun _ _ _ _ _ => pts_nil) (fun _ _ _ _ _ => (pe_op (r := rCatA K) op_catA (pv 5) (pe_tup (pa_cons (pv 6) pa_nil))))))))
    (pss_one (ps_ret (pv 2))))), ?_⟩
  obtain ⟨p, c, pp, cs, ps, rfl, h1, h2, h3, h4, h5⟩ := hv.ofSnap
  have lc := h3.len
  rw [List.length_map] at lc
  refine ⟨Nat.zero_le _, fun e0 ne0 => ⟨(by show 1 ≤ sizeLine; decide), fun f0 nf0 => ?_⟩⟩
  have g1 : Chg [] [] H (upd H e0 (.tup [])) := Chg.mk0 ne0 _
  have g2 := g1.trans (Chg.mk0 nf0 (.lst [.ref e0]))
  have hf0 : H f0 = none := g1.dom _ nf0
  refine ⟨_, rfl, p, _, 0, .ref c, rfl, rfl, SqT.of (g2.tups _ _ h1), at_of (j := 0) rfl rfl, c, cs, rfl, .inr (SqT.of (g2.tups _ _ h2)), _, rfl, by omega, by omega, ?_⟩
  rw [show (((cs.length : Nat) : Int)).toNat = dur.length by omega]
  refine for_range (lo := 0) (n := dur.length) (fun i σ H' => ∃ f x3 x4, σ = [some (.ref p), some (.bl t), some (.ref f), x3, x4, none, none] ∧ H f = none ∧ LAt f H ((allL (outs t dur pend i)).map fun p => wd p.1) H')
    ⟨f0, none, none, rfl, hf0, ⟨[.ref e0], upd_same, ?_, g2⟩⟩ ?_ ?_
  · exact .cons (Ft.mkWd (ws := []) ((upd_ne (ne_of_none upd_same nf0)).trans upd_same)) .nil
  · rintro i σ H' hi ⟨f, x3, x4, rfl, nf, L⟩
    have e0i : (0 : Int) + (i : Int) = (i : Int) := Int.zero_add _
    refine ⟨_, rfl, _, rfl, _, rfl, .ref p, i, t, dur, pend, W, by rw [e0i]; rfl, hv.mono L.chg.tups, G, hi, fun H2 c2 => ?_⟩
    have L2' := L.keep c2
    obtain ⟨acc, k1, k2, k3⟩ := id L2'
    have lk := k2.len
    rw [List.length_map] at lk
    have hob := outsOf_len (t := t) (s := i) G
    have tot : (grow (allL (outs t dur pend i)) (en (outsOf t dur pend i))).length ≤ 1000000 := by
      have := outs_len_mono t dur pend (i + 1) dur.length hi
      rw [outs_snoc, allL_snoc] at this
      omega
    rw [grow_len] at tot
    refine ⟨_, rfl, f, rfl, ⟨acc, SqL.of k1⟩, fun d nd1 => ?_⟩
    have nfd : d ≠ f := fun z => by rw [z, k1] at nd1; cases nd1
    refine it_loop (n := acc.length) (fun j H3 => LAt d H2 ((gpart (allL (outs t dur pend i)) (en (outsOf t dur pend i)) j 0).map fun p => wd p.1) H3) ?_ (fun H3 L3 => ⟨⟨acc, SqL.of (L3.chg.keep _ _ k1 (by intro h; cases h)), Nat.le_refl _⟩, ?_⟩)
      (fun j H3 hj L3 => ⟨acc, acc[j], SqL.of (L3.chg.keep _ _ k1 (by intro h; cases h)), List.getElem?_eq_getElem hj⟩) ?_
    · rw [gpart_zero]; exact LAt.start nd1
    · rw [gpart_zero, lk, List.take_length, ← allL_snoc, ← outs_snoc] at L3
      obtain ⟨a3, m1, m2, m3⟩ := L3
      exact ⟨d, _, _, rfl, k3.dom _ nd1, a3, m1, m2, k3.trans m3⟩
    · intro j y H3 H4 hj L3 yl
      obtain ⟨rfl, yy⟩ := yl
      have hy := yy acc (SqL.of (L3.chg.keep _ _ k1 (by intro h; cases h)))
      have hpj : (allL (outs t dur pend i))[j]? = some ((allL (outs t dur pend i))[j]'(by omega)) := List.getElem?_eq_getElem (by omega)
      generalize (allL (outs t dur pend i))[j]'(by omega) = pj at hpj
      obtain ⟨y', hy', fy⟩ := k2.get (i := j) (d := wd pj.1) (by rw [List.getElem?_map, hpj]; rfl)
      rw [hy] at hy'
      cases hy'
      obtain ⟨ra, rfl, hra⟩ := fy.ofWd
      have hrl : pj.1.length ≤ 1000 := by
        have := (allL_row t dur pend i pj (List.mem_of_getElem? hpj)).1
        rw [this]
        unfold outs
        rw [List.length_map, List.length_range]; omega
      refine ⟨rfl, yes (iteT ?_)⟩
      refine ⟨_, rfl, _, rfl, by omega, by omega, ?_⟩
      rw [Int.toNat_natCast]
      refine it_loop (n := (outsOf t dur pend i).length) (fun k H5 => LAt d H2 ((gpart (allL (outs t dur pend i)) (en (outsOf t dur pend i)) j k).map fun p => wd p.1) H5) L3 (fun H5 L5 => ⟨Nat.le_refl _, ?_⟩) (fun k H5 hk _ => hk) ?_
      · have := gpart_full (allL (outs t dur pend i)) (en (outsOf t dur pend i)) j pj hpj
        rw [en_len] at this
        rw [gpart_zero, ← this]
        exact L5
      · intro k y H5 H6 hk L5 yl
        obtain ⟨rfl, rfl⟩ := yl
        refine ⟨rfl, yes (iteT ?_)⟩
        refine ⟨_, rfl, _, rfl, ?_⟩
        refine cat_one (ds := pj.1.map .int) (e := .int (k : Int)) (L5.chg.tups _ _ hra) .ints (by rw [Int.zero_add]; exact Ft.mkInt _) (by rw [List.length_map]; omega) fun v' H7 c7 f7 => ?_
        have hlen := gpart_len (allL (outs t dur pend i)) (en (outsOf t dur pend i)) j k (by omega) (by rw [en_len]; omega)
        have := L5.push (e := wd (pj.1 ++ [(k : Int)])) nd1 c7 (by unfold wd; rw [List.map_append]; exact f7) (by rw [List.length_map]; exact sl (by omega))
        rw [gpart_next _ _ _ _ _ _ hpj (en_get _ _ hk), List.map_append]
        exact this
  · rintro σ H' ⟨f, x3, x4, rfl, nf, L⟩
    exact ⟨_, rfl, q _ f nf L⟩
end
end SG
namespace SG
open PySem L2
section
variable {P : Program} {w : World} {K : PySem.W.Frag} {mg : Str → Option Value} {base : Heap} {D : Defs}
theorem sc_first_choices : FnScope ["snapshot", "sector", "tears", "firsts", "choice", "words"] ["snapshot", "sector", "tears"] (defScope s_first_choices) := ⟨rfl, rfl, rfl, by decide +kernel, rfl, by decide +kernel, by decide +kernel⟩
theorem ok_firsts (O : Ok P K mg D) : FnOk P w K mg base CX0 2 D.ffirst_choices D.dfirst_choices ["snapshot", "sector", "tears"] spFirsts := by
  have G_outcomes : FnOk P w K mg base CX0 1 D.foutcomes D.doutcomes ["snapshot", "sector", "tears"] spOutc := ok_outcomes O
  refine O.Ffirst_choices.ok sc_first_choices (fun vs H Q E h => ?_) (fun cdv A outer s H vs Q E hr h => ?_)
  · obtain ⟨v, s, t, dur, pend, W, rfl, _⟩ := h
    rfl
  obtain ⟨v, sec, t, dur, pend, W, rfl, hv, G, hs, q⟩ := h
  have nd := sc_first_choices.nd
  have hu := hu_of hr
  have bk : ∀ own scope, blkC ["snapshot", "sector", "tears", "firsts", "choice", "words"] (defScope s_first_choices) scope own = true → BlkOk ["snapshot", "sector", "tears", "firsts", "choice", "words"] (defScope s_first_choices) scope own := fun own scope h => blkOk_by h
  refine ⟨_, (pss_cons (ps_set (i := 3) nd rfl (Or.inl rfl) pe_dnewN)
    (pss_cons (ps_for PassesOwn.never rfl (pi_enum (by rfl) O.zenumerate (pa_cons (pe_call G_outcomes (hr.mono (by omega)) rfl O.moutcomes O.Foutcomes.kp O.boutcomes .nil pass0 (pa_cons (pv 0) (pa_cons (pv 1) (pa_cons (pv 2) pa_nil)))) pa_nil)) (pg_tup rfl (pgs_cons (pg_name (i := 4) nd rfl (Or.inl rfl)) (pgs_cons (pg_name (i := 5) nd rfl (Or.inl rfl)) pgs_nil))) (pss_one (ps_expr (pe_setdN hr.units (pv 3) (pv 5) (pv 4) ⟨rfl, rfl, rfl, rfl⟩))))
    (pss_one (ps_ret (pe_lock (pe_lc (own := [("words", 5), ("choice", 4)]) (g := gTup K 2 (gCons (gName 5) (gCons (gName 4) gNil))) (by rfl) nd (pi_itemsN (pv 3)) (bk [("words", 5), ("choice", 4)] _ (by decide +kernel)) (fun _ _ _ _ _ => (pg_tup rfl (pgs_cons (pg_name (i := 5) nd rfl (Or.inl rfl)) (pgs_cons (pg_name (i := 4) nd rfl (Or.inl rfl)) pgs_nil)))) (fun _ _ _ _ _ => pts_nil) (fun _ _ _ _ _ => (pe_tup (pa_cons (pv 4) (pa_cons (pv 5) pa_nil)))))))))), ?_⟩
  intro fd nfd
  have g1 : Chg [] [] H (upd H fd (DkN P w fd [])) := Chg.mk0 nfd _
  refine ⟨_, rfl, _, rfl, _, rfl, v, sec, t, dur, pend, W, rfl, hv.mono g1.tups, G, hs, fun H2 l nl L => ?_⟩
  generalize hout : outsOf t dur pend sec = out at *
  have hob : out.length ≤ 2000000 := by rw [← hout]; exact outsOf_len G
  obtain ⟨acc, k1, k2, k3⟩ := L
  have lk := k2.len
  rw [List.length_map] at lk
  have nlf : l ≠ fd := fun z => by rw [z, upd_same] at nl; cases nl
  have hfd2 : H2 fd = some (DkN P w fd []) := k3.keep _ _ upd_same (by intro h; cases h)
  refine ⟨l, acc, rfl, SqL.of k1, for_it walk_enum (fun i σ H' => ∃ kvs x4 x5, σ = [some v, some (.int (sec : Int)), some (.bl t), some (.ref fd), x4, x5] ∧ H' fd = some (DkN P w fd kvs) ∧ KeysAt H' kvs ∧
      kvs.map (fun p => (p.1, p.2.2)) = (dd (·.2) ((en out).take i)).map (fun q => (wd q.2, V.int q.1)) ∧ H' l = some (.lst acc) ∧ Chg [] [] H H' ∧ Tups H2 H')
    ⟨[], none, none, rfl, hfd2, (fun p hp => by cases hp), rfl, k1, g1.trans k3, fun _ _ h => h⟩ (fun i σ H' _ ⟨_, _, _, _, _, _, _, e, _⟩ => SqL.of e) ?_ ?_⟩
  · rintro i y σ H4 H5 hi ⟨kvs, x4, x5, rfl, e1, e2, e3, e4, c4, t4⟩ ⟨T, a, b, rfl, nT, rfl, ea, eb⟩
    have ea : some (V.int ((i : Nat) : Int)) = some a := ea
    cases ea
    have eb : acc[i]? = some b := eb
    have hio : i < out.length := by omega
    obtain ⟨b', eb', fb⟩ := k2.get (i := i) (d := wd out[i]) (by rw [List.getElem?_map, List.getElem?_eq_getElem hio]; rfl)
    rw [eb] at eb'
    cases eb'
    obtain ⟨oa, rfl, ha⟩ := fb.ofWd
    have gT : Chg [] [] H4 (upd H4 T (.tup [.int ((i : Nat) : Int), .ref oa])) := Chg.mk0 nT _
    have fT : Ft (upd H4 T (.tup [.int ((i : Nat) : Int), .ref oa])) (wd out[i]) (.ref oa) := (fb.mono t4).mono gT.tups
    have lkv : kvs.length ≤ 2000000 := by
      have h1 := congrArg List.length e3
      rw [List.length_map, List.length_map] at h1
      have h2 := dd_len (·.2) ((en out).take i)
      rw [List.length_take, en_len] at h2
      omega
    refine ⟨T, _, rfl, SqT.of upd_same, rfl, _, _, rfl, _, _, rfl, rfl, ?_⟩
    have e1' := gT.keep _ _ e1 (by intro h; cases h)
    have e2' := e2.mono gT.tups
    have e4' := gT.keep _ _ e4 (by intro h; cases h)
    have step : dd (·.2) ((en out).take (i + 1)) = ddS (·.2) (dd (·.2) ((en out).take i)) ((i : Int), out[i]) := by
      rw [List.take_add_one, en_get out i hio]
      exact dd_snoc _ _ _
    refine ⟨_, rfl, ⟨fd, kvs, rfl, e1'⟩, _, rfl, _, rfl, fd, oa, wd out[i], kvs, rfl, rfl, fT, Nat.le_trans (nk_depth_wd _) (by decide), e1', e2', sl (by omega), fun z hz => ?_, fun hz => ?_⟩
    · have hin : (lkN kvs (nk (wd out[i]))).isSome = true := by rw [hz]; rfl
      obtain ⟨x, hx, ex⟩ := (lkN_map e3 _).mp hin
      have : dd (·.2) ((en out).take (i + 1)) = dd (·.2) ((en out).take i) := by
        rw [step]
        unfold ddS
        rw [if_pos (List.mem_map.mpr ⟨x, hx, nk_wd_inj ex⟩)]
      exact ⟨kvs, _, _, rfl, e1', e2', by rw [this]; exact e3, e4', c4.trans gT, fun _ _ h => gT.tups _ _ (t4 _ _ h)⟩
    · have hnin : ¬ out[i] ∈ (dd (·.2) ((en out).take i)).map (·.2) := fun hm => by
        obtain ⟨x, hx, ex⟩ := List.mem_map.mp hm
        have := (lkN_map e3 (nk (wd out[i]))).mpr ⟨x, hx, by rw [show x.2 = out[i] from ex]⟩
        rw [hz] at this
        cases this
      have this : dd (·.2) ((en out).take (i + 1)) = dd (·.2) ((en out).take i) ++ [((i : Int), out[i])] := by
        rw [step]
        unfold ddS
        rw [if_neg hnin]
      have tu := tups_own (o' := DkN P w fd (kvs ++ [(wd out[i], oa, .int (i : Int))])) e1' (fun xs z => by cases z)
      refine ⟨kvs ++ [(wd out[i], oa, .int (i : Int))], _, _, rfl, upd_same, (e2'.add fT (Nat.le_trans (nk_depth_wd _) (by decide))).mono tu, ?_, ?_, ?_, fun _ _ h => tu _ _ (gT.tups _ _ (t4 _ _ h))⟩
      · rw [this, List.map_append, List.map_append, e3]; rfl
      · rw [upd_ne nlf]; exact e4'
      · exact chg_own (H5 := H) nfd (c4.trans gT) e1' fun xs z => by cases z
  · rintro σ H4 ⟨kvs, x4, x5, rfl, e1, e2, e3, e4, c4, t4⟩
    rw [List.take_of_length_le (by rw [en_len]; omega)] at e3
    have lkv : kvs.length = (firsts out).length := by
      have h1 := congrArg List.length e3
      rw [List.length_map, List.length_map] at h1
      exact h1
    have lf : (firsts out).length ≤ 2000000 := by
      have := dd_len (·.2) (en out)
      rw [en_len] at this
      unfold firsts
      omega
    refine ⟨fd, DkN P w fd kvs, e1, trivial, fun od => ?_⟩
    have tu : Tups H4 (upd H4 fd (.frz od (DkN P w fd kvs))) := tups_own e1 fun xs z => by cases z
    have hfk : upd H4 fd (.frz od (DkN P w fd kvs)) fd = some (.frz od (DkN P w fd kvs)) := upd_same
    have cK : Chg [] [] H (upd H4 fd (.frz od (DkN P w fd kvs))) := chg_own (H5 := H) nfd c4 e1 fun xs z => by cases z
    have kK := e2.mono tu
    generalize upd H4 fd (.frz od (DkN P w fd kvs)) = Hk at *
    refine ⟨_, rfl, fd, od, kvs, rfl, hfk, fun d nd1 => ?_⟩
    refine it_loop (n := kvs.length) (fun i H5 => LAt d Hk (((firsts out).take i).map ch) H5) (LAt.start nd1) (fun H5 L5 => ⟨⟨L5.chg.keep _ _ hfk (by intro h; cases h), kK.mono L5.chg.tups, Nat.le_refl _⟩, ?_⟩)
      (fun i H5 hi L5 => ⟨L5.chg.keep _ _ hfk (by intro h; cases h), kK.mono L5.chg.tups, hi⟩) ?_
    · rw [lkv, List.take_length] at L5
      obtain ⟨a5, m1, m2, m3⟩ := L5
      have hf5 := m3.keep _ _ hfk (by intro h; cases h)
      have ndf : d ≠ fd := fun z => by rw [z, hfk] at nd1; cases nd1
      refine ⟨hf5, q _ d (cK.dom _ nd1) ⟨a5, (upd_ne ndf).trans m1, m2.mono (tups_own hf5 fun xs z => by cases z), chg_own (H5 := H) nfd (cK.trans m3) hf5 fun xs z => by cases z⟩⟩
    · rintro i y H5 H6 hi L5 ⟨T, p, hp, rfl, nT, rfl⟩
      have hif : i < (firsts out).length := by omega
      have hrow : (p.1, p.2.2) = (wd (firsts out)[i].2, V.int (firsts out)[i].1) := by
        have h1 := congrArg (fun l => l[i]?) e3
        simp only [List.getElem?_map] at h1
        rw [hp] at h1
        have h2 : (dd (·.2) (en out))[i]? = some (firsts out)[i] := List.getElem?_eq_getElem hif
        rw [h2] at h1
        exact Option.some.inj h1
      have e1 : p.1 = wd (firsts out)[i].2 := congrArg Prod.fst hrow
      have e2' : p.2.2 = V.int (firsts out)[i].1 := congrArg Prod.snd hrow
      have fk := (kK.mono L5.chg.tups p (List.mem_of_getElem? hp)).1
      rw [e1] at fk
      have gT : Chg [] [] H5 (upd H5 T (.tup [.ref p.2.1, p.2.2])) := Chg.mk0 nT _
      refine ⟨T, _, rfl, SqT.of upd_same, rfl, _, _, rfl, _, _, rfl, rfl, rfl, yes (iteT ?_)⟩
      refine ⟨_, rfl, _, rfl, (by show 2 ≤ sizeLine; decide), fun u nu => ?_⟩
      have g2 := gT.trans (Chg.mk0 nu (.tup [p.2.2, .ref p.2.1]))
      have := L5.push (e := ch (firsts out)[i]) nd1 g2 (Ft.mkTup upd_same (.cons (by rw [e2']; exact Ft.mkInt _) (.cons (fk.mono g2.tups) .nil))) (by rw [List.length_map, List.length_take]; exact sl (by omega))
      rw [List.take_add_one, List.getElem?_eq_getElem hif, List.map_append]
      exact this
theorem firstsL_len_mono (t : Bool) (dur : List Ws) (pend : List (Int × Ws)) (n : Nat) : (firstsL (outs t dur pend n)).length ≤ (allL (outs t dur pend n)).length := by
  rw [← firsts_all]; exact dd_len _ _
theorem Ft.ofPr {H : Hp} {p : RC} {v : V} (h : Ft H (pr p) v) : ∃ q a b cs, v = .ref q ∧ H q = some (.tup [.ref a, .ref b]) ∧ H a = some (.tup (p.1.map V.int)) ∧ H b = some (.tup cs) ∧ FtAll H (p.2.map wd) cs := by
  obtain ⟨q, x, y, rfl, h1, fx, fy⟩ := Ft.two h
  obtain ⟨a, rfl, ha⟩ := fx.ofWd
  obtain ⟨b, cs, rfl, hb, fb⟩ := Ft.tup fy
  exact ⟨q, a, b, cs, rfl, h1, ha, hb, fb⟩
end
end SG
namespace SG
open PySem L2
/-! ### the product from the front -/
def combL : List (List (Int × Ws)) → List RC
  | [] => [([], [])]
  | l :: r => l.flatMap fun q => (combL r).map fun p => (q.1 :: p.1, q.2 :: p.2)
def joinRC (p q : RC) : RC := (p.1 ++ q.1, p.2 ++ q.2)
theorem joinRC_nil (p : RC) : joinRC p ([], []) = p := by unfold joinRC; simp
theorem joinRC_ext (p : RC) (q : Int × Ws) (x : RC) : joinRC (ext p q) x = joinRC p (q.1 :: x.1, q.2 :: x.2) := by unfold joinRC ext; simp
theorem fold_comb : ∀ (ls : List (List (Int × Ws))) (f : List RC), ls.foldl grow f = f.flatMap fun p => (combL ls).map (joinRC p)
  | [], f => by
    simp only [List.foldl_nil, combL, List.map_cons, List.map_nil, joinRC_nil]
    induction f with
    | nil => rfl
    | cons p f ih => rw [List.flatMap_cons, ← ih]; rfl
  | l :: r, f => by
    rw [List.foldl_cons, fold_comb r (grow f l)]
    unfold grow
    rw [List.flatMap_assoc]
    congr 1
    funext p
    rw [List.flatMap_map, combL, List.map_flatMap]
    congr 1
    funext q
    rw [List.map_map]
    congr 1
    funext x
    exact joinRC_ext p q x
theorem comb_firsts (ls : List (List Ws)) : combL (ls.map firsts) = firstsL ls := by
  unfold firstsL
  have h : ls.foldl (fun f l => grow f (firsts l)) [([], [])] = (ls.map firsts).foldl grow [([], [])] := by rw [List.foldl_map]
  rw [h, fold_comb, List.flatMap_cons, List.flatMap_nil, List.append_nil]
  have e : joinRC ([], []) = id := by funext x; unfold joinRC; simp
  rw [e, List.map_id]
end SG
namespace SG
open PySem L2
section
variable {P : Program} {w : World} {K : PySem.W.Frag} {mg : Str → Option Value} {base : Heap} {D : Defs}
/-- own lists in a list: the first choices of each sector -/
def InAt (H : Hp) : List (List (Int × Ws)) → List Addr → Prop
  | [], [] => True
  | l :: r, q :: qs => (∃ ys, H q = some (.lst ys) ∧ FtAll H (l.map ch) ys) ∧ InAt H r qs
  | _, _ => False
theorem InAt.keep {H H' : Hp} (t : Tups H H') : ∀ {lss : List (List (Int × Ws))} {qs : List Addr}, (∀ y ∈ qs, H' y = H y) → InAt H lss qs → InAt H' lss qs
  | [], [], _, _ => by unfold InAt; trivial
  | l :: r, q :: qs, h, x => by
    unfold InAt at x ⊢
    obtain ⟨⟨ys, h1, h2⟩, h3⟩ := x
    exact ⟨⟨ys, by rw [h q (List.mem_cons_self ..)]; exact h1, h2.mono t⟩, InAt.keep t (fun y hy => h y (List.mem_cons_of_mem _ hy)) h3⟩
  | [], _ :: _, _, x => by unfold InAt at x; exact x.elim
  | _ :: _, [], _, x => by unfold InAt at x; exact x.elim
theorem InAt.some {H : Hp} : ∀ {lss : List (List (Int × Ws))} {qs : List Addr}, InAt H lss qs → ∀ y ∈ qs, ∃ ys, H y = Option.some (.lst ys)
  | [], [], _, y, hy => by cases hy
  | l :: r, q :: qs, x, y, hy => by
    unfold InAt at x
    obtain ⟨⟨ys, h1, _⟩, h3⟩ := x
    rcases List.mem_cons.mp hy with z | z
    · rw [z]; exact ⟨ys, h1⟩
    · exact h3.some y z
  | [], _ :: _, x, _, _ => by unfold InAt at x; exact x.elim
  | _ :: _, [], x, _, _ => by unfold InAt at x; exact x.elim
theorem InAt.chg {H H' : Hp} {lss : List (List (Int × Ws))} {qs : List Addr} (x : InAt H lss qs) (c : Chg [] [] H H') : InAt H' lss qs :=
  x.keep c.tups fun y hy => by
    obtain ⟨ys, e⟩ := x.some y hy
    rw [e]; exact c.all _ _ e
theorem InAt.len {H : Hp} : ∀ {lss : List (List (Int × Ws))} {qs : List Addr}, InAt H lss qs → qs.length = lss.length
  | [], [], _ => rfl
  | _ :: _, _ :: _, x => by unfold InAt at x; exact congrArg (· + 1) x.2.len
  | [], _ :: _, x => by unfold InAt at x; exact x.elim
  | _ :: _, [], x => by unfold InAt at x; exact x.elim
theorem InAt.snoc {H : Hp} {l : List (Int × Ws)} {q : Addr} {ys : List V} (h1 : H q = Option.some (.lst ys)) (h2 : FtAll H (l.map ch) ys) : ∀ {lss : List (List (Int × Ws))} {qs : List Addr}, InAt H lss qs → InAt H (lss ++ [l]) (qs ++ [q])
  | [], [], _ => by
    show InAt H [l] [q]
    unfold InAt
    exact ⟨⟨ys, h1, h2⟩, by unfold InAt; trivial⟩
  | _ :: _, _ :: _, x => by
    unfold InAt at x
    rw [List.cons_append, List.cons_append]
    unfold InAt
    exact ⟨x.1, InAt.snoc h1 h2 x.2⟩
  | [], _ :: _, x => by unfold InAt at x; exact x.elim
  | _ :: _, [], x => by unfold InAt at x; exact x.elim
/-- combined -/
def spComb (n : Nat) : GSp := fun vs H ds prot => ∃ (fl : Addr) (qs : List Addr) (lss : List (List (Int × Ws))), vs = [.ref fl] ∧ H fl = some (.lst (qs.map V.ref)) ∧ InAt H lss qs ∧ lss.length < n ∧ n ≤ 1000 ∧ ds = (combL lss).map pr ∧ prot = fl :: qs
theorem comb_len : ∀ (lss : List (List (Int × Ws))) (p : RC), p ∈ combL lss → p.1.length = lss.length ∧ p.2.length = lss.length
  | [], p, h => by
    unfold combL at h
    rw [List.mem_singleton.mp h]
    exact ⟨rfl, rfl⟩
  | l :: r, p, h => by
    unfold combL at h
    obtain ⟨q, _, h⟩ := List.mem_flatMap.mp h
    obtain ⟨x, hx, rfl⟩ := List.mem_map.mp h
    have := comb_len r x hx
    exact ⟨congrArg (· + 1) this.1, congrArg (· + 1) this.2⟩
theorem cat_front {H : Hp} {p1 b : Addr} {x : V} {ys : List V} {Q : VK} (h1 : H p1 = some (.tup [x])) (hb : H b = some (.tup ys)) (hl : ys.length + 1 ≤ sizeLine) (q : ∀ p H', H' p = some (.tup (x :: ys)) → Chg [] [] H H' → Q (.ref p) H') : rCatA K (.ref p1) (.ref b) H Q :=
  ⟨p1, b, [x], ys, rfl, rfl, SqT.of h1, SqT.of hb, (by rw [List.length_singleton]; omega), (fun z => by cases z), (fun _ z => by subst z; exact q p1 H h1 (Chg.refl ..)), fun _ _ p np => q p _ upd_same (Chg.mk0 np _)⟩
abbrev jn (q : Int × Ws) (p : RC) : RC := (q.1 :: p.1, q.2 :: p.2)
theorem sg_combined : GScope ["firsts", "rest", "choice", "words", "row", "left"] ["firsts"] (defScope s_combined) := ⟨rfl, rfl, rfl, by decide +kernel, rfl, by decide +kernel, by decide +kernel⟩
theorem gn_combined (O : Ok P K mg D) {k n : Nat} (G_combined : GnOk P w K mg base k D.fcombined D.dcombined ["firsts"] (spComb n)) : GnOk P w K mg base (k + 4) D.fcombined D.dcombined ["firsts"] (spComb (n + 1)) := by
  refine gny O.Fcombined sg_combined (fun vs H ds prot h => ?_) (fun cdv A outer n0 a g os H vs ds prot hr hfA ok hsp => ?_)
  · obtain ⟨fl, qs, lss, rfl, _⟩ := h
    rfl
  obtain ⟨fl, qs, lss, rfl, hfl, hin, hln, hn, rfl, rfl⟩ := hsp
  have nd := sg_combined.nd
  have nocell : ∀ x c, (gcOf P w K mg base ["firsts", "rest", "choice", "words", "row", "left"] "combined" (defScope s_combined) D.fcombined cdv A outer n0 a g os).env.cells.lookup x = some c → False := fun x c e => by cases e
  refine ⟨_, (gsy_of (gss_one (gs_if (fun _ _ _ => (pt_not (pt_trK (K := K) rfl (pv 0) (by intro _; rfl)))) (gss_one (gs_yield ok nocell (fun _ _ _ => (pe_tup (pa_cons (pe_tup pa_nil) (pa_cons (pe_tup pa_nil) pa_nil)))) hfA)) (gss_cons (gs_ps (fun _ _ _ => (ps_set (i := 1) nd rfl (Or.inl rfl) (pe_slice (r := rSlL K) sl_list (pv 0) (po_some pe_int) po_none))))
    (gss_one (gs_for (fun _ _ _ => (pi_listK (K := K) (pe_ix (r := rIxL K) ix_list (pv 0) pe_int (fun _ _ => rfl)))) (fun _ _ _ => (pg_tupK (K := K) (n := 2) rfl rfl (pgs_cons (pg_name (i := 2) nd rfl (Or.inl rfl)) (pgs_cons (pg_name (i := 3) nd rfl (Or.inl rfl)) pgs_nil)))) (gss_one (gs_forG ok (hr.mono (by omega)).in1 hr.depth hfA (fun _ _ _ => (pgn_call rfl G_combined (hr.mono (by omega)) rfl O.mcombined O.Fcombined.kp O.bcombined (pa_cons (pv 1) pa_nil))) (fun _ _ _ => (pg_tupK (K := K) (n := 2) rfl rfl (pgs_cons (pg_name (i := 4) nd rfl (Or.inl rfl)) (pgs_cons (pg_name (i := 5) nd rfl (Or.inl rfl)) pgs_nil)))) (gss_one (gs_yield ok nocell (fun _ _ _ => (pe_tup (pa_cons (pe_op (r := rCatA K) op_catA (pe_tup (pa_cons (pv 2) pa_nil)) (pv 4)) (pa_cons (pe_op (r := rCatA K) op_catA (pe_tup (pa_cons (pv 3) pa_nil)) (pv 5)) pa_nil)))) hfA)))))))))), ?_⟩
  intro H0 tu pr0
  have hfl0 : H0 fl = some (.lst (qs.map V.ref)) := by rw [pr0 fl (List.mem_cons_self ..)]; exact hfl
  have hin0 : InAt H0 lss qs := hin.keep tu fun y hy => pr0 y (List.mem_cons_of_mem _ hy)
  clear hfl hin tu pr0
  refine ⟨_, rfl, !(qs.map V.ref).isEmpty, .inl ⟨_, SqL.of hfl0, rfl⟩, ?_⟩
  cases lss with
  | nil =>
    cases qs with
    | cons _ _ => unfold InAt at hin0; exact hin0.elim
    | nil =>
      refine ⟨Nat.zero_le _, fun e0 ne0 => ⟨Nat.zero_le _, fun e1 ne1 => ⟨(by show 2 ≤ sizeLine; decide), fun e2 ne2 => ?_⟩⟩⟩
      have c0 : Chg [] [] H0 (upd H0 e0 (.tup [])) := Chg.mk0 ne0 _
      have c1 := Chg.mk0 (fp := []) ne1 (.tup [])
      have c2 := Chg.mk0 (fp := []) ne2 (.tup [.ref e0, .ref e1])
      refine ⟨_, [], [], rfl, Ft.mkTup upd_same (.cons (Ft.mkWd (ws := []) (c2.tups _ _ (c1.tups _ _ upd_same))) (.cons (Ft.mkTup (ds := []) (c2.tups _ _ upd_same) .nil) .nil)), (c0.trans c1).trans c2, (fun y hy => by cases hy), fun H2 t2 p2 => ?_⟩
      exact ⟨rfl, Chg.refl ..⟩
  | cons l r =>
    cases qs with
    | nil => unfold InAt at hin0; exact hin0.elim
    | cons q qs =>
      unfold InAt at hin0
      obtain ⟨⟨ys, hq, hys⟩, hr0⟩ := hin0
      have lys := hys.len
      rw [List.length_map] at lys
      rw [List.length_cons] at hln
      refine ⟨_, rfl, 1, rfl, fl, _, rfl, SqL.of hfl0, fun p1 np1 => ?_⟩
      rw [show cutV ((q :: qs).map V.ref) (some 1) none = qs.map V.ref from cutV_one _ _]
      have c1 : Chg [] [] H0 (upd H0 p1 (.lst (qs.map V.ref))) := Chg.mk0 np1 _
      have hp1 : upd H0 p1 (.lst (qs.map V.ref)) p1 = some (.lst (qs.map V.ref)) := upd_same
      have hq1 := c1.all _ _ hq
      refine ⟨_, rfl, fl, _, 0, .ref q, rfl, rfl, SqL.of (c1.all _ _ hfl0), at_of (j := 0) rfl rfl, q, rfl, ⟨ys, SqL.of hq1⟩, ?_⟩
      have hys1 := hys.mono c1.tups
      have hr1 := hr0.chg c1
      generalize upd H0 p1 (.lst (qs.map V.ref)) = Hs at *
      refine ⟨fun i m prot H0 ds σ H => ∃ x2 x3 x4 x5, σ = [some (.ref fl), some (.ref p1), x2, x3, x4, x5] ∧ H p1 = some (.lst (qs.map V.ref)) ∧ H q = some (.lst ys) ∧ FtAll H (l.map ch) ys ∧ InAt H r qs ∧ Chg [] [] H0 H ∧ (∀ y ∈ p1 :: q :: qs, y ∈ prot ∨ H0 y = none) ∧ m = l.length - i ∧ i ≤ l.length ∧ ds = ((l.drop i).flatMap fun a => (combL r).map (jn a)).map pr, ⟨l.length, none, none, none, none, rfl, hp1, hq1, hys1, hr1, c1, ?_, (Nat.sub_zero _).symm, Nat.zero_le _, rfl⟩, ?_⟩
      · intro y hy
        rcases List.mem_cons.mp hy with z | z
        · rw [z]; exact .inr np1
        · exact .inl (List.mem_cons_of_mem _ z)
      clear hp1 hq1 hys1 hr1 c1 np1 hfl0 hq hys hr0
      clear H0 Hs
      rintro i m prot H0 ds σ H ⟨x2, x3, x4, x5, rfl, e1, e2, e3, e4, c4, hpr, rfl, hi, rfl⟩
      by_cases hil : i < l.length
      rotate_left
      · have e : l.drop i = [] := List.drop_of_length_le (by omega)
        exact .inl ⟨⟨ys, SqL.of e2, by omega⟩, by rw [e]; rfl, c4⟩
      refine .inr ⟨⟨ys, ys[i], SqL.of e2, List.getElem?_eq_getElem _⟩, _, fun _ _ _ _ _ h => ⟨l.length - (i + 1), by omega, h⟩, ?_⟩
      rintro x H' ⟨rfl, yy⟩
      have hx := yy ys (SqL.of e2)
      obtain ⟨x', hx', fx⟩ := e3.get (i := i) (d := ch l[i]) (by rw [List.getElem?_map, List.getElem?_eq_getElem hil]; rfl)
      rw [hx] at hx'
      cases hx'
      obtain ⟨T, xa, xb, rfl, hT, fa, fb⟩ := Ft.two fx
      have exa := fa.int
      subst exa
      refine ⟨T, _, rfl, SqT.of hT, rfl, _, _, rfl, _, _, rfl, rfl, ?_⟩
      refine ⟨_, rfl, (combL r).map pr, p1 :: qs, ⟨p1, qs, r, rfl, e1, e4, by omega, by omega, rfl, rfl⟩, ?_⟩
      have hdr : l.drop i = l[i] :: l.drop (i + 1) := List.drop_eq_getElem_cons hil
      refine ⟨fun dsi proti prot H0 ds σ H => ∃ (rl : List RC) (x4 x5 : Option V), dsi = rl.map pr ∧ σ = [some (.ref fl), some (.ref p1), some (.int l[i].1), some xb, x4, x5] ∧ Ft H (wd l[i].2) xb ∧ H p1 = some (.lst (qs.map V.ref)) ∧ H q = some (.lst ys) ∧ FtAll H (l.map ch) ys ∧ InAt H r qs ∧ Chg [] [] H0 H ∧ (∀ y ∈ p1 :: q :: qs ++ proti, (y ∈ prot ∨ H0 y = none) ∧ H y ≠ none) ∧
        (∀ p ∈ rl, p.1.length = r.length ∧ p.2.length = r.length) ∧ ds = (rl.map (jn l[i]) ++ (l.drop (i + 1)).flatMap fun a => (combL r).map (jn a)).map pr, ⟨combL r, _, _, rfl, rfl, fb, e1, e2, e3, e4, c4, ?_, comb_len r, ?_⟩, ?_, ?_⟩
      · have hne : ∀ y ∈ p1 :: q :: qs, H' y ≠ none := fun y hy => by
          rcases List.mem_cons.mp hy with z | z
          · rw [z, e1]; exact fun z => by cases z
          rcases List.mem_cons.mp z with z | z
          · rw [z, e2]; exact fun z => by cases z
          · obtain ⟨_, e⟩ := e4.some y z
            rw [e]; exact fun z => by cases z
        have hsub : ∀ y ∈ p1 :: q :: qs ++ (p1 :: qs), y ∈ p1 :: q :: qs := fun y hy => by
          rcases List.mem_append.mp hy with z | z
          · exact z
          rcases List.mem_cons.mp z with z | z
          · rw [z]; exact List.mem_cons_self ..
          · exact List.mem_cons_of_mem _ (List.mem_cons_of_mem _ z)
        exact fun y hy => ⟨hpr y (hsub y hy), hne y (hsub y hy)⟩
      · rw [hdr, List.flatMap_cons]
      · rintro proti prot H0 ds σ H ⟨rl, x4, x5, er, rfl, _, e1, e2, e3, e4, c4, hpr, _, rfl⟩ H' c'
        have er : rl = [] := List.map_eq_nil_iff.mp er.symm
        subst er
        exact ⟨_, _, _, _, rfl, c'.all _ _ e1, c'.all _ _ e2, e3.mono c'.tups, e4.chg c', c4.trans c', fun y hy => (hpr y (List.mem_append_left _ hy)).1, rfl, by omega, rfl⟩
      · rintro d dsi proti prot H0 ds σ H ⟨rl, x4, x5, er, rfl, fw, e1, e2, e3, e4, c4, hpr, hlr, rfl⟩ x H' proti' c' fx hpi
        cases rl with
        | nil => cases er
        | cons p rl =>
          rw [List.map_cons] at er
          obtain ⟨ed, er2⟩ := List.cons.inj er
          subst ed
          subst er2
          obtain ⟨qx, a, b, cs, rfl, hqx, ha, hb, fcs⟩ := Ft.ofPr fx
          have hlp := hlr p (List.mem_cons_self ..)
          have lcs := fcs.len
          rw [List.length_map] at lcs
          have szl : 2000 ≤ sizeLine := by rw [sizeLine_eq]; decide
          refine ⟨qx, _, rfl, SqT.of hqx, rfl, _, _, rfl, _, _, rfl, rfl, ?_⟩
          refine ⟨_, rfl, (by show 1 ≤ sizeLine; omega), fun p2 np2 => ⟨_, rfl, ?_⟩⟩
          have k2 : Chg [] [] H' (upd H' p2 (.tup [.int l[i].1])) := Chg.mk0 np2 _
          refine cat_front upd_same (k2.tups _ _ ha) (by rw [List.length_map]; omega) fun u1 H5 h5 k5 => ⟨_, rfl, (by show 1 ≤ sizeLine; omega), fun p3 np3 => ⟨_, rfl, ?_⟩⟩
          have k3 : Chg [] [] H5 (upd H5 p3 (.tup [xb])) := Chg.mk0 np3 _
          have k25 := (k2.trans k5).trans k3
          refine cat_front upd_same (k25.tups _ _ hb) (by omega) fun u2 H6 h6 k6 => ⟨(by show 2 ≤ sizeLine; omega), fun p4 np4 => ?_⟩
          have k4 : Chg [] [] H6 (upd H6 p4 (.tup [.ref u1, .ref u2])) := Chg.mk0 np4 _
          have kA := (k25.trans k6).trans k4
          have fw' : Ft H' (wd l[i].2) xb := fw.mono c'.tups
          have hu1 := k4.tups _ _ (k6.tups _ _ (k3.tups _ _ h5))
          have hu2 := k4.tups _ _ h6
          have fall : Ft (upd H6 p4 (.tup [.ref u1, .ref u2])) (pr (jn l[i] p)) (.ref p4) :=
            Ft.mkTup upd_same (.cons (Ft.mkWd (ws := l[i].1 :: p.1) hu1) (.cons (Ft.mkTup (ds := (l[i].2 :: p.2).map wd) hu2 (.cons (fw'.mono kA.tups) (fcs.mono kA.tups))) .nil))
          have cA := c4.trans (c'.trans kA)
          have hnA : ∀ y ∈ p1 :: q :: qs ++ proti', (y ∈ prot ∨ H0 y = none) ∧ H' y ≠ none := fun y hy => by
            rcases List.mem_append.mp hy with z | z
            · obtain ⟨h1, h2⟩ := hpr y (List.mem_append_left _ z)
              exact ⟨h1, fun e => h2 (c'.dom _ e)⟩
            · obtain ⟨h1, h2⟩ := hpi y z
              refine ⟨?_, h2⟩
              rcases h1 with h1 | h1
              · exact (hpr y (List.mem_append_right _ h1)).1
              · exact .inr (c4.dom _ h1)
          have same : ∀ y, H' y ≠ none → upd H6 p4 (.tup [.ref u1, .ref u2]) y = H' y := fun y hy => by
            cases e : H' y with
            | none => exact (hy e).elim
            | some o => exact kA.all _ _ e
          refine ⟨_, _, p1 :: q :: qs ++ proti', rfl, fall, cA, fun y hy => ⟨(hnA y hy).1, by rw [same y (hnA y hy).2]; exact (hnA y hy).2⟩, fun H2 t2 pr2 => ?_⟩
          have hs : ∀ y ∈ p1 :: q :: qs ++ proti', H2 y = H' y := fun y hy => by rw [pr2 y hy, same y (hnA y hy).2]
          have tA : Tups H' H2 := fun b xs e => t2 b xs (kA.tups b xs e)
          have m1 : p1 ∈ p1 :: q :: qs ++ proti' := List.mem_append_left _ (List.mem_cons_self ..)
          have mq : q ∈ p1 :: q :: qs ++ proti' := List.mem_append_left _ (List.mem_cons_of_mem _ (List.mem_cons_self ..))
          refine ⟨tA, fun y hy => hs y (List.mem_append_right _ hy), rl, _, _, rfl, rfl, fw'.mono tA, ?_, ?_, (e3.mono c'.tups).mono tA, (e4.chg c').keep tA fun y hy => hs y (List.mem_append_left _ (List.mem_cons_of_mem _ (List.mem_cons_of_mem _ hy))), Chg.refl .., fun y hy => ⟨.inl hy, by rw [hs y hy]; exact (hnA y hy).2⟩, fun p hp => hlr p (List.mem_cons_of_mem _ hp), rfl⟩
          · rw [hs p1 m1]; exact c'.all _ _ e1
          · rw [hs q mq]; exact c'.all _ _ e2
theorem gn_combN (O : Ok P K mg D) : ∀ n : Nat, n ≤ 1000 → GnOk P w K mg base (4 * n) D.fcombined D.dcombined ["firsts"] (spComb n)
  | 0, _ => ⟨fun vs H ds prot h => by obtain ⟨_, _, _, _, _, _, h, _⟩ := h; exact absurd h (Nat.not_lt_zero _), fun B A outer s H args us vs ds prot m hr e0 hb r h => by obtain ⟨_, _, _, _, _, _, h, _⟩ := h; exact absurd h (Nat.not_lt_zero _)⟩
  | n + 1, h => gn_combined O (gn_combN O n (by omega))
end
end SG
namespace SG
open PySem L2
section
variable {P : Program} {w : World} {K : PySem.W.Frag} {mg : Str → Option Value} {base : Heap} {D : Defs}
/-- leftovers: the pairs of the different images, each with its first row -/
def spLeft : GSp := fun vs H ds prot => ∃ (v : V) (t : Bool) (dur : List Ws) (pend : List (Int × Ws)) (W : Nat), vs = [v, .bl t] ∧ Ft H (snap dur pend) v ∧ Good W dur pend ∧ dur.length ≤ 6 ∧ (allL (outs t dur pend dur.length)).length ≤ 1000000 ∧
  ds = (firstsL (outs t dur pend dur.length)).map pr ∧ prot = []
theorem sg_leftovers : GScope ["snapshot", "tears", "firsts", "sector"] ["snapshot", "tears"] (defScope s_leftovers) := ⟨rfl, rfl, rfl, by decide +kernel, rfl, by decide +kernel, by decide +kernel⟩
theorem gn_leftovers (O : Ok P K mg D) (G_combined : GnOk P w K mg base 28 D.fcombined D.dcombined ["firsts"] (spComb 7)) (G_first_choices : FnOk P w K mg base CX0 2 D.ffirst_choices D.dfirst_choices ["snapshot", "sector", "tears"] spFirsts) : GnOk P w K mg base 34 D.fleftovers D.dleftovers ["snapshot", "tears"] spLeft := by
  refine gny O.Fleftovers sg_leftovers (fun vs H ds prot h => ?_) (fun cdv A outer n0 a g os H vs ds prot hr hfA ok hsp => ?_)
  · obtain ⟨v, t, dur, pend, W, rfl, _⟩ := h
    rfl
  obtain ⟨v, t, dur, pend, W, rfl, hv, G, hd, hbig, rfl, rfl⟩ := hsp
  have nd := sg_leftovers.nd
  have bk : ∀ own scope, blkC ["snapshot", "tears", "firsts", "sector"] (defScope s_leftovers) scope own = true → BlkOk ["snapshot", "tears", "firsts", "sector"] (defScope s_leftovers) scope own := fun own scope h => blkOk_by h
  have hfY : (yA (gcOf P w K mg base ["snapshot", "tears", "firsts", "sector"] "leftovers" (defScope s_leftovers) D.fleftovers cdv A outer n0 a g os)).in1.frames = some ((gcOf P w K mg base ["snapshot", "tears", "firsts", "sector"] "leftovers" (defScope s_leftovers) D.fleftovers cdv A outer n0 a g os).env :: outer) := Around.frames_deeper hfA
  refine ⟨_, (gsy_cons (gs_ps (fun _ _ _ => (ps_setLc (i := 2) (own := [("sector", 3)]) (g := gName 3) (by rfl) nd rfl rfl (sw_true rfl rfl rfl (by decide +kernel)) (pi_range1 (by rfl) O.zrange (pa_cons (pe_callB (r := rLenQ K) call_lenK (by rfl) O.zlen PySem.boot_len (pa_cons (pe_ix (r := rIxT K) ix_tup (pv 0) pe_int (fun _ _ => rfl)) pa_nil)) pa_nil)) (bk [("sector", 3)] _ (by decide +kernel)) (fun _ _ _ _ _ => (pg_name (i := 3) nd rfl (Or.inl rfl))) (fun _ _ _ _ _ => pts_nil) (fun _ _ _ _ _ => (pe_call G_first_choices (hr.mono (by omega)) rfl O.mfirst_choices O.Ffirst_choices.kp O.bfirst_choices .nil pass0 (pa_cons (pv 0) (pa_cons (pv 3) (pa_cons (pv 1) pa_nil))))))))
    (gsy_yf ok (hr.mono (by omega)).in1.in1 hr.depth hfY (fun _ _ _ => (pgn_call rfl G_combined (hr.mono (by omega)) rfl O.mcombined O.Fcombined.kp O.bcombined (pa_cons (pv 2) pa_nil))))), ?_⟩
  intro H0 tu pr0
  clear pr0
  replace hv := hv.mono tu
  clear tu
  obtain ⟨p, c, pp, cs, ps, rfl, h1, h2, h3, h4, h5⟩ := hv.ofSnap
  have lc := h3.len
  rw [List.length_map] at lc
  refine ⟨_, rfl, p, _, 0, .ref c, rfl, rfl, SqT.of h1, at_of (j := 0) rfl rfl, c, cs, rfl, .inr (SqT.of h2), _, rfl, by omega, by omega, fun d nd1 => ?_⟩
  rw [show (((cs.length : Nat) : Int)).toNat = dur.length by omega]
  refine it_loop (n := dur.length) (fun i H5 => ∃ qs : List Addr, H5 d = some (.lst (qs.map V.ref)) ∧ InAt H5 ((outs t dur pend i).map firsts) qs ∧ (∀ y ∈ qs, H0 y = none ∧ y ≠ d) ∧ Chg [] [] H0 H5) ⟨[], upd_same, by show InAt _ [] []; unfold InAt; trivial, (fun y hy => by cases hy), Chg.mk0 nd1 _⟩ (fun H5 L5 => ⟨Nat.le_refl _, ?_⟩)
    (fun i H5 hi L5 => hi) ?_
  · obtain ⟨qs, e1, e2, e3, c5⟩ := L5
    refine ⟨_, rfl, (combL ((outs t dur pend dur.length).map firsts)).map pr, d :: qs, ⟨d, qs, _, rfl, e1, e2, ?_, by decide, rfl, rfl⟩, ?_, c5, fun y hy => ?_⟩
    · rw [List.length_map]; unfold outs; rw [List.length_map, List.length_range]; omega
    · rw [comb_firsts]
    · rcases List.mem_cons.mp hy with z | z
      · rw [z]; exact .inr nd1
      · exact .inr (e3 y z).1
  · rintro i y H5 H6 hi ⟨qs, e1, e2, e3, c5⟩ ⟨rfl, rfl⟩
    have e0i : (0 : Int) + (i : Int) = (i : Int) := Int.zero_add _
    refine ⟨rfl, yes (iteT ?_)⟩
    refine ⟨_, rfl, _, rfl, _, rfl, .ref p, i, t, dur, pend, W, by rw [e0i]; rfl, hv.mono c5.tups, G, hi, fun H2 l nl L => ?_⟩
    obtain ⟨acc, b1, b2, b3⟩ := L
    have e1' := b3.all _ _ e1
    have nld : l ≠ d := fun z => by rw [z, e1] at nl; cases nl
    have hql := e2.len
    rw [List.length_map] at hql
    have hlo : (outs t dur pend i).length = i := by unfold outs; rw [List.length_map, List.length_range]
    refine ⟨_, e1', by rw [List.length_map]; exact sl (by omega), qs ++ [l], by rw [List.map_append]; exact upd_same, ?_, ?_, ?_⟩
    · rw [outs_snoc, List.map_append]
      have i2 := e2.chg b3
      have tu := tups_own (o' := .lst (qs.map V.ref ++ [.ref l])) e1' fun xs z => by cases z
      refine InAt.snoc (by rw [upd_ne nld]; exact b1) (b2.mono tu) (i2.keep tu fun y hy => upd_ne (e3 y hy).2)
    · intro y hy
      rcases List.mem_append.mp hy with z | z
      · exact e3 y z
      · rw [List.mem_singleton.mp z]; exact ⟨c5.dom _ nl, nld⟩
    · exact chg_own (H5 := H0) nd1 (c5.trans b3) e1' fun xs z => by cases z
end
end SG
namespace SG
open PySem L2
section
variable {P : Program} {w : World} {K : PySem.W.Frag} {mg : Str → Option Value} {base : Heap} {D : Defs}
theorem sc_distinct : FnScope ["snapshot", "tears"] ["snapshot", "tears"] (defScope s_distinct) := ⟨rfl, rfl, rfl, by decide +kernel, rfl, by decide +kernel, by decide +kernel⟩
theorem ok_distinct (O : Ok P K mg D) (G_leftovers : GnOk P w K mg base 34 D.fleftovers D.dleftovers ["snapshot", "tears"] spLeft) : FnOkz P w K mg base 40 D.fdistinct D.ddistinct ["snapshot", "tears"] spDistinct := by
  refine okz O.Fdistinct sc_distinct (fun vs H Q E h => ?_) (fun cdv A outer s H vs Q E hr h => ?_)
  · obtain ⟨v, t, dur, pend, W, rfl, _⟩ := h
    rfl
  obtain ⟨v, t, dur, pend, W, rfl, hv, G, hd, hbig, q⟩ := h
  have nd := sc_distinct.nd
  have hu := hu_of hr
  have bk : ∀ own scope, blkC ["snapshot", "tears"] (defScope s_distinct) scope own = true → BlkOk ["snapshot", "tears"] (defScope s_distinct) scope own := fun own scope h => blkOk_by h
  refine ⟨_, (zs_one (zs_ret (ze_listGn (pgn_call rfl G_leftovers (hr.mono (by omega)) rfl O.mleftovers O.Fleftovers.kp O.bleftovers (pa_cons (pv 0) (pa_cons (pv 1) pa_nil))) rfl (hr.mono (by omega)) (by rfl) O.zlist PyProof.Rows.boot_list))), ?_⟩
  refine ⟨_, rfl, _, rfl, _, [], ⟨v, t, dur, pend, W, rfl, hv, G, hd, hbig, rfl, rfl⟩, (fun y hy => by cases hy), ?_, fun H2 p ys np c hp fy => q H2 p np ⟨ys, hp, fy, c⟩⟩
  rw [List.length_map]
  have h1 := firstsL_len_mono t dur pend dur.length
  have h2 : sizeLine ≥ 1000000 := by rw [sizeLine_eq]; decide
  omega
end
end SG
namespace SG
open PySem L2
def lastW : Ws → List Ws → Ws
  | w0, [] => w0
  | _, v :: vs => lastW v vs
theorem lefts_snoc (t : Bool) : ∀ (ws : List Ws) (w0 w : Ws), lefts t w0 (ws ++ [w]) = lefts t w0 ws ++ ((if t = true then mixes (lastW w0 ws) w else []) ++ [w])
  | [], w0, w => by simp [lefts, lastW]
  | v :: vs, w0, w => by
    rw [List.cons_append, lefts, lefts, lefts_snoc t vs v w, lastW]
    simp
theorem lefts_last (t : Bool) : ∀ (ws : List Ws) (w0 : Ws), (lefts t w0 ws)[(lefts t w0 ws).length - 1]? = some (lastW w0 ws)
  | [], w0 => rfl
  | v :: vs, w0 => by
    have ih := lefts_last t vs v
    have hne : 1 ≤ (lefts t v vs).length := List.length_pos_iff.mpr (lefts_ne t v vs)
    rw [lefts, lastW, ← List.cons_append, List.length_append, List.getElem?_append_right (by omega)]
    rw [show (w0 :: (if t = true then mixes w0 v else [])).length + (lefts t v vs).length - 1 - (w0 :: (if t = true then mixes w0 v else [])).length = (lefts t v vs).length - 1 by omega]
    exact ih
theorem lastW_len {W : Nat} : ∀ (ws : List Ws) (w0 : Ws), w0.length = W → (∀ w ∈ ws, w.length = W) → (lastW w0 ws).length = W
  | [], _, h, _ => h
  | v :: vs, _, _, h => lastW_len vs v (h v (List.mem_cons_self ..)) fun x hx => h x (List.mem_cons_of_mem _ hx)
/-- t[:k] + u[k:], 1 ≤ k < W -/
theorem cat_cut {K : PySem.W.Frag} {H : Hp} {a b : Addr} {x y : Ws} {k W : Nat} {ki : Int} {Q : VK} {Z : V → Hp → Prop} (hZ : ∀ u H1, (rSlA K (.ref b) (some ki) none H1 fun v H2 => rCatA K u v H2 Q) → Z u H1) (hx : x.length = W) (hy : y.length = W) (hk : 1 ≤ k) (hk2 : k < W) (hW : W ≤ 1000) (hki : ki = (k : Int)) (ha : H a = some (.tup (x.map V.int))) (hb : H b = some (.tup (y.map V.int)))
    (q : ∀ v H', Chg [] [] H H' → Ft H' (wd (x.take k ++ y.drop k)) v → Q v H') :
    rSlA K (.ref a) none (some ki) H Z := by
  subst hki
  refine ⟨a, _, rfl, SqT.of ha, fun z => ?_, fun _ t1 nt1 => hZ _ _ ?_⟩
  · exfalso
    have := z.2
    rw [HT.sIx_nat, List.length_map] at this
    omega
  have g1 : Chg [] [] H (upd H t1 (.tup (cutV (x.map V.int) none (some (k : Int))))) := Chg.mk0 nt1 _
  have hb1 := g1.tups _ _ hb
  have h1 : upd H t1 (.tup (cutV (x.map V.int) none (some (k : Int)))) t1 = some (.tup ((x.take k).map V.int)) := by
    rw [upd_same, cutV_take _ _ (by rw [List.length_map]; omega), List.map_take]
  generalize upd H t1 (.tup (cutV (x.map V.int) none (some (k : Int)))) = H1 at *
  refine ⟨b, _, rfl, SqT.of hb1, fun z => ?_, fun _ t2 nt2 => ?_⟩
  · exfalso
    have := z.1
    rw [HT.sIx_nat, List.length_map] at this
    omega
  have g2 : Chg [] [] H1 (upd H1 t2 (.tup (cutV (y.map V.int) (some (k : Int)) none))) := Chg.mk0 nt2 _
  have h2 := g2.tups _ _ h1
  have h3 : upd H1 t2 (.tup (cutV (y.map V.int) (some (k : Int)) none)) t2 = some (.tup ((y.drop k).map V.int)) := by
    rw [upd_same, cutV_drop, List.map_drop]
  generalize upd H1 t2 (.tup (cutV (y.map V.int) (some (k : Int)) none)) = H2 at *
  refine ⟨t1, t2, _, _, rfl, rfl, SqT.of h2, SqT.of h3, Nat.le_of_lt (sl (by rw [List.length_map, List.length_map, List.length_take, List.length_drop]; omega)), fun z => ?_, fun _ z => ?_, fun _ _ p np => ?_⟩
  · exfalso
    have := congrArg List.length z
    rw [List.length_map, List.length_take, List.length_nil] at this
    omega
  · exfalso
    have := congrArg List.length z
    rw [List.length_map, List.length_drop, List.length_nil] at this
    omega
  · refine q _ _ ((g1.trans g2).trans (Chg.mk0 np _)) (Ft.mkWd ?_)
    rw [← List.map_append]
    exact upd_same
def spAll : Sp := fun vs H Q _ => ∃ (v : V) (t : Bool) (dur : List Ws) (pend : List (Int × Ws)) (W : Nat), vs = [v, .bl t] ∧ Ft H (snap dur pend) v ∧ Good W dur pend ∧ dur.length ≤ 1000 ∧ (allL (outs t dur pend dur.length)).length ≤ 1000000 ∧
  ∀ H' l, H l = none → LAt l H ((allL (outs t dur pend dur.length)).map pr) H' → Q (.ref l) H'
section
variable {P : Program} {w : World} {K : PySem.W.Frag} {mg : Str → Option Value} {base : Heap} {D : Defs}
theorem sc__law_left : FnScope ["snapshot", "sector", "tears", "left", "at", "words", "before", "k"] ["snapshot", "sector", "tears"] (defScope s__law_left) := ⟨rfl, rfl, rfl, by decide +kernel, rfl, by decide +kernel, by decide +kernel⟩
theorem ok_left (O : Ok P K mg D) : FnOk P w K mg base CX0 1 D.f_law_left D.d_law_left ["snapshot", "sector", "tears"] spOutc := by
  refine O.F_law_left.ok sc__law_left (fun vs H Q E h => ?_) (fun cdv A outer s H vs Q E hr h => ?_)
  · obtain ⟨v, s, t, dur, pend, W, rfl, _⟩ := h
    rfl
  obtain ⟨v, sec, t, dur, pend, W, rfl, hv, G, hs, q⟩ := h
  have nd := sc__law_left.nd
  have hu := hu_of hr
  have bk : ∀ own scope, blkC ["snapshot", "sector", "tears", "left", "at", "words", "before", "k"] (defScope s__law_left) scope own = true → BlkOk ["snapshot", "sector", "tears", "left", "at", "words", "before", "k"] (defScope s__law_left) scope own := fun own scope h => blkOk_by h
  refine ⟨_, (pss_cons (ps_set (i := 3) nd rfl (Or.inl rfl) (pe_lst (pa_cons (pe_ix (r := rIxT K) ix_tup (pe_ix (r := rIxT K) ix_tup (pv 0) pe_int (fun _ _ => rfl)) (pv 1) (fun _ _ => rfl)) pa_nil)))
    (pss_cons (ps_for PassesOwn.never rfl (pi_tupK (K := K) (pe_ix (r := rIxT K) ix_tup (pv 0) pe_int (fun _ _ => rfl))) (pg_tup rfl (pgs_cons (pg_name (i := 4) nd rfl (Or.inl rfl)) (pgs_cons (pg_name (i := 5) nd rfl (Or.inl rfl)) pgs_nil))) (pss_one (ps_if (pt_cmpR op_eq (pv 4) (pv 1) (nomark _)) (pss_cons (ps_set (i := 6) nd rfl (Or.inl rfl) (pe_ix (r := rIxL K) ix_list (pv 3) (pe_op op_sub (pe_callB (r := rLenQ K) call_lenK (by rfl) O.zlen PySem.boot_len (pa_cons (pv 3) pa_nil)) pe_int) (fun _ _ => rfl)))
    (C8.pss_cut (ps_if (pt_val (pv 2)) (pss_one (ps_for PassesOwn.never rfl (pi_range2 (by rfl) O.zrange (pa_cons pe_int (pa_cons (pe_callB (r := rLenQ K) call_lenK (by rfl) O.zlen PySem.boot_len (pa_cons (pv 5) pa_nil)) pa_nil))) (pg_name (i := 7) nd rfl (Or.inl rfl)) (pss_one (ps_expr (pe_bm PySem.F.plainAttrs_list PySem.F.slot_list_append PySem.F.type_list_append mt_append (pv 3) (pa_cons (pe_op (r := rCatA K) op_catA (pe_slice (r := rSlA K) sl_tupA (pv 5) po_none (po_some (pv 7))) (pe_slice (r := rSlA K) sl_tupA (pv 6) (po_some (pv 7)) po_none)) pa_nil)))))) pss_nil)
    (pss_one (ps_expr (pe_bm PySem.F.plainAttrs_list PySem.F.slot_list_append PySem.F.type_list_append mt_append (pv 3) (pa_cons (pv 5) pa_nil)))))) pss_nil)))
    (pss_one (ps_ret (pv 3))))), ?_⟩
  obtain ⟨p, c, pp, cs, ps, rfl, h1, h2, h3, h4, h5⟩ := hv.ofSnap
  obtain ⟨x, hx, fx⟩ := h3.get (i := sec) (d := wd (dur.getD sec [])) (by rw [List.getElem?_map, List.getElem?_eq_getElem hs, List.getD_eq_getElem?_getD, List.getElem?_eq_getElem hs]; rfl)
  generalize hw0 : dur.getD sec [] = w0 at *
  have hW0 : w0.length = W := by
    rw [← hw0, List.getD_eq_getElem?_getD, List.getElem?_eq_getElem hs]
    exact G.gdur _ (List.getElem_mem hs)
  have few := G.few
  have w2 := G.w2
  refine ⟨_, rfl, p, _, 0, .ref c, rfl, rfl, SqT.of h1, at_of (j := 0) rfl rfl, _, rfl, c, cs, (sec : Int), x, rfl, rfl, SqT.of h2, at_of (j := sec) (by omega) hx, (by show 1 ≤ sizeLine; decide), fun l nl => ?_⟩
  have g1 : Chg [] [] H (upd H l (.lst [x])) := Chg.mk0 nl _
  have L1 : LAt l H ((lefts t w0 (sel (sec : Int) (pend.take 0))).map wd) (upd H l (.lst [x])) := ⟨[x], upd_same, .cons (fx.mono g1.tups) .nil, g1⟩
  have lp := h5.len
  rw [List.length_map] at lp
  have bnd : ∀ i, (lefts t w0 (sel (sec : Int) (pend.take i))).length ≤ 2000000 := fun i => by
    have h := lefts_len (W := W) t (sel (sec : Int) (pend.take i)) w0 (sel_mem fun p hp => G.gpend p (List.mem_of_mem_take hp))
    have h2 := sel_len (sec : Int) (pend.take i)
    rw [List.length_take] at h2
    have h5 : (sel (sec : Int) (pend.take i)).length * (W + 1) ≤ 1000 * 1001 := Nat.mul_le_mul (by omega) (by omega)
    omega
  refine ⟨_, rfl, p, _, 1, .ref pp, rfl, rfl, SqT.of (g1.tups _ _ h1), at_of (j := 1) rfl rfl, pp, rfl, ⟨ps, SqT.of (g1.tups _ _ h4)⟩, ?_⟩
  refine for_tup (K := K) (a := pp) (xs := ps) (fun i σ H' => ∃ x4 x5 x6 x7, σ = [some (.ref p), some (.int (sec : Int)), some (.bl t), some (.ref l), x4, x5, x6, x7] ∧ LAt l H ((lefts t w0 (sel (sec : Int) (pend.take i))).map wd) H')
    ⟨none, none, none, none, rfl, L1⟩ (fun i σ H' _ ⟨_, _, _, _, _, L⟩ => SqT.of (L.chg.tups _ _ h4)) ?_ ?_
  · rintro i y σ H' hi ⟨x4, x5, x6, x7, rfl, L⟩
    have hip : i < pend.length := by
      have := (List.getElem?_eq_some_iff.mp hi).1
      omega
    have hpi : pend[i]? = some pend[i] := List.getElem?_eq_getElem hip
    obtain ⟨y2, e2, fy⟩ := h5.get (i := i) (d := pw pend[i]) (by rw [List.getElem?_map, hpi]; rfl)
    rw [hi] at e2
    cases e2
    obtain ⟨qq, wv, rfl, k1, k2⟩ := fy.ofPw
    obtain ⟨ow, rfl, hw⟩ := k2.ofWd
    have lw : pend[i].2.length = W := G.gpend _ (List.getElem_mem hip)
    refine ⟨qq, _, rfl, SqT.of (L.chg.tups _ _ k1), rfl, _, _, rfl, _, _, rfl, rfl, ?_⟩
    refine ⟨_, rfl, _, rfl, rfl, _, rfl, ite2 (fun z => ?_) (fun z => ?_)⟩
    · have e : pend[i].1 = (sec : Int) := by simpa using z
      have est : sel (sec : Int) (pend.take (i + 1)) = sel (sec : Int) (pend.take i) ++ [pend[i].2] := by rw [sel_step _ _ _ _ hpi, if_pos e]
      have hsm : ∀ w ∈ sel (sec : Int) (pend.take i), w.length = W := sel_mem fun p hp => G.gpend p (List.mem_of_mem_take hp)
      generalize hws : sel (sec : Int) (pend.take i) = ws at *
      have bi := bnd i
      have bi1 := bnd (i + 1)
      rw [est] at bi1 ⊢
      rw [hws] at bi
      have lst := lastW_len ws w0 hW0 hsm
      obtain ⟨acc, m1, m2, m3⟩ := id L
      have lm := m2.len
      rw [List.length_map] at lm
      have hne : 1 ≤ (lefts t w0 ws).length := List.length_pos_iff.mpr (lefts_ne t w0 ws)
      obtain ⟨b, hb, fb⟩ := m2.get (i := (lefts t w0 ws).length - 1) (d := wd (lastW w0 ws)) (by rw [List.getElem?_map, lefts_last]; rfl)
      obtain ⟨ob, rfl, hob⟩ := fb.ofWd
      refine ⟨_, rfl, _, rfl, l, acc, rfl, .inl (SqL.of m1), _, _, rfl, rfl, l, acc, _, _, rfl, rfl, SqL.of m1, at_of (j := (lefts t w0 ws).length - 1) (by rw [lm]; omega) hb, ?_⟩
      have hob' := L.chg
      rw [lefts_snoc] at bi1 ⊢
      -- the torn ones
      rw [List.length_append, List.length_append] at bi1
      refine ⟨fun σ H3 => ∃ x7, σ = [some (.ref p), some (.int (sec : Int)), some (.bl t), some (.ref l), some (.int pend[i].1), some (.ref ow), some (.ref ob), x7] ∧ LAt l H ((lefts t w0 ws ++ (if t = true then mixes (lastW w0 ws) pend[i].2 else [])).map wd) H3, ?_, ?_⟩
      · refine ⟨_, rfl, t, rfl, ite2 (fun zt => ?_) (fun zt => ?_)⟩
        · rw [if_pos zt] at bi1 ⊢
          refine ⟨_, rfl, ow, _, rfl, .inr (SqT.of (hob'.tups _ _ hw)), 1, _, rfl, ⟨by decide, by decide, by rw [List.length_map]; omega, by rw [List.length_map]; omega⟩, ?_⟩
          rw [show ((((pend[i].2.map V.int).length : Nat) : Int) - 1).toNat = pend[i].2.length - 1 by rw [List.length_map]; omega]
          refine for_range (lo := 1) (n := pend[i].2.length - 1) (fun k σ H3 => ∃ x7, σ = [some (.ref p), some (.int (sec : Int)), some (.bl t), some (.ref l), some (.int pend[i].1), some (.ref ow), some (.ref ob), x7] ∧
            LAt l H ((lefts t w0 ws ++ (List.range k).map fun k => pend[i].2.take (k + 1) ++ (lastW w0 ws).drop (k + 1)).map wd) H3 ∧ Tups H' H3) ⟨x7, rfl, by simpa using L, fun _ _ h => h⟩ ?_ ?_
          · rintro k σ H3 hk ⟨x7, rfl, L3, t3⟩
            obtain ⟨a3, n1, n2, n3⟩ := id L3
            refine ⟨_, rfl, .inl ⟨rfl, _, SqL.of n1⟩, _, rfl, _, rfl, _, rfl, ?_⟩
            refine cat_cut (W := W) (k := k + 1) (b := ob) (y := lastW w0 ws) (x := pend[i].2) (fun u H1 z => ⟨_, rfl, _, rfl, _, rfl, z⟩) lw lst (by omega) (by omega) w2 (by omega) (n3.tups _ _ hw) (t3 _ _ hob) fun v H4 c4 f4 => ?_
            obtain ⟨a4, p1, p2, p3⟩ := L3.push (e := wd (pend[i].2.take (k + 1) ++ (lastW w0 ws).drop (k + 1))) nl c4 f4 (by rw [List.length_map, List.length_append, List.length_map, List.length_range]; exact sl (by omega))
            refine ⟨l, a4, _, rfl, rfl, p1, p2, _, rfl, ?_, fun _ _ h => tups_own p1 (fun xs z => by cases z) _ _ (c4.tups _ _ (t3 _ _ h))⟩
            rw [show (List.range (k + 1)).map (fun k => pend[i].2.take (k + 1) ++ (lastW w0 ws).drop (k + 1)) = (List.range k).map (fun k => pend[i].2.take (k + 1) ++ (lastW w0 ws).drop (k + 1)) ++ [pend[i].2.take (k + 1) ++ (lastW w0 ws).drop (k + 1)] by rw [List.range_succ, List.map_append]; rfl, ← List.append_assoc, List.map_append]
            exact p3
          · rintro σ H3 ⟨x7, rfl, L3, t3⟩
            exact ⟨x7, rfl, L3⟩
        · rw [if_neg zt, List.append_nil]
          exact ⟨x7, rfl, L⟩
      · rintro σ H3 ⟨x7, rfl, L3⟩
        obtain ⟨a3, n1, n2, n3⟩ := id L3
        refine ⟨_, rfl, .inl ⟨rfl, _, SqL.of n1⟩, _, rfl, ?_⟩
        obtain ⟨a4, p1, p2, p3⟩ := L3.push (e := wd pend[i].2) (y := .ref ow) nl (Chg.refl _ _) (k2.mono n3.tups) (by rw [List.length_map, List.length_append]; exact sl (by omega))
        refine ⟨l, a4, _, rfl, rfl, p1, p2, _, _, _, _, rfl, ?_⟩
        rw [← List.append_assoc, List.map_append]
        exact p3
    · have e : ¬ pend[i].1 = (sec : Int) := by simpa using z
      refine ⟨_, _, _, _, rfl, ?_⟩
      rw [sel_step _ _ _ _ hpi, if_neg e, List.append_nil]
      exact L
  · rintro σ H' ⟨x4, x5, x6, x7, rfl, L⟩
    rw [lp, List.take_length] at L
    have hout : outsOf t dur pend sec = lefts t w0 (sel (sec : Int) pend) := by unfold outsOf; rw [hw0]
    rw [hout] at q
    exact ⟨_, rfl, q _ l nl L⟩
theorem sc__law_all : FnScope ["snapshot", "tears", "found", "sector", "left", "wider", "row", "contents", "choice"] ["snapshot", "tears"] (defScope s__law_all) := ⟨rfl, rfl, rfl, by decide +kernel, rfl, by decide +kernel, by decide +kernel⟩
theorem ok_all (O : Ok P K mg D) : FnOk P w K mg base CX0 2 D.f_law_all D.d_law_all ["snapshot", "tears"] spAll := by
  have G__law_left : FnOk P w K mg base CX0 1 D.f_law_left D.d_law_left ["snapshot", "sector", "tears"] spOutc := ok_left O
  refine O.F_law_all.ok sc__law_all (fun vs H Q E h => ?_) (fun cdv A outer s H vs Q E hr h => ?_)
  · obtain ⟨v, t, dur, pend, W, rfl, _⟩ := h
    rfl
  obtain ⟨v, t, dur, pend, W, rfl, hv, G, hd, hbig, q⟩ := h
  have nd := sc__law_all.nd
  have hu := hu_of hr
  have bk : ∀ own scope, blkC ["snapshot", "tears", "found", "sector", "left", "wider", "row", "contents", "choice"] (defScope s__law_all) scope own = true → BlkOk ["snapshot", "tears", "found", "sector", "left", "wider", "row", "contents", "choice"] (defScope s__law_all) scope own := fun own scope h => blkOk_by h
  refine ⟨_, (pss_cons (ps_set (i := 2) nd rfl (Or.inl rfl) (pe_lst (pa_cons (pe_tup (pa_cons (pe_tup pa_nil) (pa_cons (pe_tup pa_nil) pa_nil))) pa_nil)))
    (pss_cons (ps_for PassesOwn.never rfl (pi_range1 (by rfl) O.zrange (pa_cons (pe_callB (r := rLenQ K) call_lenK (by rfl) O.zlen PySem.boot_len (pa_cons (pe_ix (r := rIxT K) ix_tup (pv 0) pe_int (fun _ _ => rfl)) pa_nil)) pa_nil)) (pg_name (i := 3) nd rfl (Or.inl rfl)) (pss_cons (ps_set (i := 4) nd rfl (Or.inl rfl) (pe_call G__law_left (hr.mono (by omega)) rfl O.m_law_left O.F_law_left.kp O.b_law_left .nil pass0 (pa_cons (pv 0) (pa_cons (pv 3) (pa_cons (pv 1) pa_nil)))))
    (pss_cons (ps_set (i := 5) nd rfl (Or.inl rfl) (pe_lst pa_nil))
    (pss_cons (ps_for PassesOwn.never rfl (pi_listK (K := K) (pv 2)) (pg_tup rfl (pgs_cons (pg_name (i := 6) nd rfl (Or.inl rfl)) (pgs_cons (pg_name (i := 7) nd rfl (Or.inl rfl)) pgs_nil))) (pss_one (ps_for PassesOwn.never rfl (pi_range1 (by rfl) O.zrange (pa_cons (pe_callB (r := rLenQ K) call_lenK (by rfl) O.zlen PySem.boot_len (pa_cons (pv 4) pa_nil)) pa_nil)) (pg_name (i := 8) nd rfl (Or.inl rfl)) (pss_one (ps_expr (pe_bm PySem.F.plainAttrs_list PySem.F.slot_list_append PySem.F.type_list_append mt_append (pv 5) (pa_cons (pe_tup (pa_cons (pe_op (r := rCatA K) op_catA (pv 6) (pe_tup (pa_cons (pv 8) pa_nil))) (pa_cons (pe_op (r := rCatA K) op_catA (pv 7) (pe_tup (pa_cons (pe_ix (r := rIxL K) ix_list (pv 4) (pv 8) (fun _ _ => rfl)) pa_nil))) pa_nil))) pa_nil)))))))
    (pss_one (ps_set (i := 2) nd rfl (Or.inl rfl) (pv 5)))))))
    (pss_one (ps_ret (pv 2))))), ?_⟩
  obtain ⟨p, c, pp, cs, ps, rfl, h1, h2, h3, h4, h5⟩ := hv.ofSnap
  have lc := h3.len
  rw [List.length_map] at lc
  refine ⟨Nat.zero_le _, fun e0 ne0 => ⟨Nat.zero_le _, fun e1 ne1 => ⟨(by show 2 ≤ sizeLine; decide), fun e2 ne2 => ⟨(by show 1 ≤ sizeLine; decide), fun f0 nf0 => ?_⟩⟩⟩⟩
  have g0 : Chg [] [] H (upd H e0 (.tup [])) := Chg.mk0 ne0 _
  have g1 := g0.trans (Chg.mk0 ne1 (.tup []))
  have g2 := g1.trans (Chg.mk0 ne2 (.tup [.ref e0, .ref e1]))
  have g3 := g2.trans (Chg.mk0 nf0 (.lst [.ref e2]))
  have hf0 : H f0 = none := g2.dom _ nf0
  have hp0 : Ft (upd (upd (upd (upd H e0 (.tup [])) e1 (.tup [])) e2 (.tup [.ref e0, .ref e1])) f0 (.lst [.ref e2])) (pr ([], [])) (.ref e2) := by
    have k0 : upd (upd (upd H e0 (.tup [])) e1 (.tup [])) e2 (.tup [.ref e0, .ref e1]) e0 = some (.tup []) := (Chg.trans (fp := []) (Chg.mk0 (fp := []) ne1 (.tup [])) (Chg.mk0 ne2 (.tup [.ref e0, .ref e1]))).tups _ _ upd_same
    have k1 : upd (upd (upd H e0 (.tup [])) e1 (.tup [])) e2 (.tup [.ref e0, .ref e1]) e1 = some (.tup []) := (Chg.mk0 (fp := []) ne2 (.tup [.ref e0, .ref e1])).tups _ _ upd_same
    exact (Ft.mkTup upd_same (.cons (Ft.mkWd (ws := []) k0) (.cons (Ft.mkTup (ds := []) k1 .nil) .nil))).mono (Chg.mk0 (fp := []) nf0 (.lst [.ref e2])).tups
  refine ⟨_, rfl, p, _, 0, .ref c, rfl, rfl, SqT.of (g3.tups _ _ h1), at_of (j := 0) rfl rfl, c, cs, rfl, .inr (SqT.of (g3.tups _ _ h2)), _, rfl, by omega, by omega, ?_⟩
  rw [show (((cs.length : Nat) : Int)).toNat = dur.length by omega]
  refine for_range (lo := 0) (n := dur.length) (fun i σ H' => ∃ f x3 x4 x5 x6 x7 x8, σ = [some (.ref p), some (.bl t), some (.ref f), x3, x4, x5, x6, x7, x8] ∧ H f = none ∧ LAt f H ((allL (outs t dur pend i)).map pr) H')
    ⟨f0, none, none, none, none, none, none, rfl, hf0, ⟨[.ref e2], upd_same, .cons hp0 .nil, g3⟩⟩ ?_ ?_
  · rintro i σ H' hi ⟨f, x3, x4, x5, x6, x7, x8, rfl, nf, L⟩
    have e0i : (0 : Int) + (i : Int) = (i : Int) := Int.zero_add _
    refine ⟨_, rfl, _, rfl, _, rfl, .ref p, i, t, dur, pend, W, by rw [e0i]; rfl, hv.mono L.chg.tups, G, hi, fun H2 fl nfl LF => ?_⟩
    have L2' := L.keep LF.chg
    obtain ⟨acc, k1, k2, k3⟩ := id L2'
    obtain ⟨bcc, b1, b2, b3⟩ := id LF
    have lk := k2.len
    rw [List.length_map] at lk
    have lb := b2.len
    rw [List.length_map] at lb
    have tot : (grow (allL (outs t dur pend i)) (en (outsOf t dur pend i))).length ≤ 1000000 := by
      have := outs_len_mono t dur pend (i + 1) dur.length hi
      rw [outs_snoc, allL_snoc] at this
      omega
    rw [grow_len] at tot
    have hob := outsOf_len (t := t) (s := i) G
    refine ⟨Nat.zero_le _, fun d nd1 => ?_⟩
    have nd2 : H d = none := k3.dom _ nd1
    have gd : Chg [] [] H2 (upd H2 d (.lst [])) := Chg.mk0 nd1 _
    have k1' := gd.keep _ _ k1 (by intro h; cases h)
    have b1' := gd.keep _ _ b1 (by intro h; cases h)
    refine ⟨_, rfl, f, rfl, ⟨acc, SqL.of k1'⟩, ?_⟩
    refine for_list (K := K) (a := f) (xs := acc) (fun j σ H3 => ∃ x6 x7 x8, σ = [some (.ref p), some (.bl t), some (.ref f), some (.int (0 + (i : Int))), some (.ref fl), some (.ref d), x6, x7, x8] ∧ LAt d H2 ((gpart (allL (outs t dur pend i)) (en (outsOf t dur pend i)) j 0).map pr) H3)
      ⟨x6, x7, x8, rfl, by rw [gpart_zero]; exact LAt.start nd1⟩ (fun j σ H3 _ ⟨_, _, _, _, L3⟩ => SqL.of (L3.chg.keep _ _ k1 (by intro h; cases h))) ?_ ?_
    · rintro j y σ H3 hj ⟨x6, x7, x8, rfl, L3⟩
      have hja : j < acc.length := (List.getElem?_eq_some_iff.mp hj).1
      have hpj : (allL (outs t dur pend i))[j]? = some ((allL (outs t dur pend i))[j]'(by omega)) := List.getElem?_eq_getElem (by omega)
      generalize (allL (outs t dur pend i))[j]'(by omega) = pj at hpj
      obtain ⟨y', hy', fy⟩ := k2.get (i := j) (d := pr pj) (by rw [List.getElem?_map, hpj]; rfl)
      rw [hj] at hy'
      cases hy'
      obtain ⟨qa, ra, rb, cs', rfl, hq1, hra, hrb, frb⟩ := fy.ofPr
      have hrow : RowOf (outs t dur pend i) pj := allL_row t dur pend i pj (List.mem_of_getElem? hpj)
      have hlo : (outs t dur pend i).length = i := by unfold outs; rw [List.length_map, List.length_range]
      have hrl : pj.1.length ≤ 1000 := by rw [hrow.1, hlo]; omega
      have hrl2 : pj.2.length ≤ 1000 := by
        rw [hrow.2.1]
        unfold imgOf
        rw [List.length_zipWith, hlo]; omega
      refine ⟨qa, _, rfl, SqT.of (L3.chg.tups _ _ hq1), rfl, _, _, rfl, _, _, rfl, rfl, ?_⟩
      refine ⟨_, rfl, fl, bcc, rfl, .inl (SqL.of (L3.chg.keep _ _ b1 (by intro h; cases h))), _, rfl, by omega, by omega, ?_⟩
      rw [show (((bcc.length : Nat) : Int)).toNat = (outsOf t dur pend i).length by omega]
      refine for_range (lo := 0) (n := (outsOf t dur pend i).length) (fun k σ H5 => ∃ x8, σ = [some (.ref p), some (.bl t), some (.ref f), some (.int (0 + (i : Int))), some (.ref fl), some (.ref d), some (.ref ra), some (.ref rb), x8] ∧ LAt d H2 ((gpart (allL (outs t dur pend i)) (en (outsOf t dur pend i)) j k).map pr) H5)
        ⟨x8, rfl, L3⟩ ?_ ?_
      · rintro k σ H5 hk ⟨x8, rfl, L5⟩
        obtain ⟨a5, n1, n2, n3⟩ := id L5
        obtain ⟨yw, hyw, fw⟩ := b2.get (i := k) (d := wd (outsOf t dur pend i)[k]) (by rw [List.getElem?_map, List.getElem?_eq_getElem hk]; rfl)
        refine ⟨_, rfl, .inl ⟨rfl, _, SqL.of n1⟩, _, rfl, _, rfl, ?_⟩
        refine cat_one (ds := pj.1.map .int) (e := .int (k : Int)) (L5.chg.tups _ _ hra) .ints (by rw [Int.zero_add]; exact Ft.mkInt _) (by rw [List.length_map]; omega) fun v1 H7 c7 f7 => ?_
        have b17 := (L5.chg.trans c7).keep _ _ b1 (by intro h; cases h)
        have lcs := frb.len
        rw [List.length_map] at lcs
        refine ⟨_, rfl, _, rfl, _, rfl, fl, bcc, _, yw, rfl, rfl, SqL.of b17, at_of (j := k) (Int.zero_add _) hyw, ?_⟩
        refine cat_one (ds := pj.2.map wd) (e := wd (outsOf t dur pend i)[k]) ((L5.chg.trans c7).tups _ _ hrb) (frb.mono (L5.chg.trans c7).tups) (fw.mono (L5.chg.trans c7).tups) (by omega) fun v2 H8 c8 f8 => ?_
        refine ⟨(by show 2 ≤ sizeLine; decide), fun u nu => ?_⟩
        have c9 := (c7.trans c8).trans (Chg.mk0 nu (.tup [v1, v2]))
        have hlen := gpart_len (allL (outs t dur pend i)) (en (outsOf t dur pend i)) j k (by omega) (by rw [en_len]; omega)
        have t9 := (Chg.mk0 (fp := []) nu (.tup [v1, v2])).tups
        obtain ⟨a6, p1, p2, p3⟩ := L5.push (e := pr (ext pj ((k : Int), (outsOf t dur pend i)[k]))) nd1 c9 (Ft.mkTup upd_same (.cons (by show Ft _ (wd (pj.1 ++ [(k : Int)])) _; unfold wd; rw [List.map_append]; exact (f7.mono c8.tups).mono t9) (.cons (by show Ft _ (ct (pj.2 ++ [(outsOf t dur pend i)[k]])) _; unfold ct; rw [List.map_append]; exact f8.mono t9) .nil))) (by rw [List.length_map]; exact sl (by omega))
        refine ⟨d, a6, _, rfl, rfl, p1, p2, _, rfl, ?_⟩
        rw [gpart_next _ _ _ _ _ _ hpj (en_get _ _ hk), List.map_append]
        exact p3
      · rintro σ H5 ⟨x8, rfl, L5⟩
        refine ⟨_, _, _, rfl, ?_⟩
        have := gpart_full (allL (outs t dur pend i)) (en (outsOf t dur pend i)) j pj hpj
        rw [en_len] at this
        rw [gpart_zero, ← this]
        exact L5
    · rintro σ H3 ⟨x6, x7, x8, rfl, L3⟩
      rw [gpart_zero, lk, List.take_length, ← allL_snoc, ← outs_snoc] at L3
      obtain ⟨a3, m1, m2, m3⟩ := L3
      exact ⟨_, rfl, d, _, _, _, _, _, _, rfl, nd2, a3, m1, m2, k3.trans m3⟩
  · rintro σ H' ⟨f, x3, x4, x5, x6, x7, x8, rfl, nf, L⟩
    exact ⟨_, rfl, q _ f nf L⟩
end
end SG
namespace SG
open PySem L2
theorem allL_bound {W : Nat} {t : Bool} {dur : List Ws} {pend : List (Int × Ws)} (g : Good W dur pend) (hW : W ≤ 4) (hp : pend.length ≤ 5) : ∀ n, (allL (outs t dur pend n)).length ≤ 26 ^ n
  | 0 => by simp [outs, allL, allFrom]
  | n + 1 => by
    rw [outs_snoc, allL_snoc, grow_len, en_len, Nat.pow_succ]
    have h := lefts_len (W := W) t (sel (n : Int) pend) (dur.getD n []) (sel_mem g.gpend)
    have h2 := sel_len (n : Int) pend
    have h5 : (sel (n : Int) pend).length * (W + 1) ≤ 5 * 5 := Nat.mul_le_mul (by omega) (by omega)
    exact Nat.mul_le_mul (allL_bound g hW hp n) (by unfold outsOf; omega)
theorem bound4 {W : Nat} {t : Bool} {dur : List Ws} {pend : List (Int × Ws)} (g : Good W dur pend) (hW : W ≤ 4) (hp : pend.length ≤ 5) (hd : dur.length ≤ 4) : (allL (outs t dur pend dur.length)).length ≤ 1000000 := by
  have h := allL_bound (t := t) g hW hp dur.length
  have : 26 ^ dur.length ≤ 26 ^ 4 := Nat.pow_le_pow_right (by decide) hd
  have e : (26 : Nat) ^ 4 = 456976 := by decide
  omega
def spLaw (K : PySem.W.Frag) : Sp := fun vs H Q _ => ∃ (a : Addr) (ns : List Int), vs = [.ref a] ∧ SqL K H a (ns.map V.int) ∧ ns.length ≤ 63 ∧ ∀ H', Q (.bl true) H'
theorem shp_pr (p : RC) : Shp 3 (pr p) := Shp.tuple fun d hd => by
  rcases List.mem_cons.mp hd with rfl | hd
  · exact (shp_wd _).mono (by decide)
  · rw [List.mem_singleton.mp hd]; exact shp_ct _
theorem shp_list {α : Type} {n : Nat} {f : α → PyData} (h : ∀ x, Shp n (f x)) (xs : List α) : Shp (n + 1) (.list (xs.map f)) := Shp.list fun d hd => by
  obtain ⟨x, _, rfl⟩ := List.mem_map.mp hd
  exact h x
/-- the lists of the law, the state -/
structure Wl (H : Hp) (st c dl pl : Addr) (dur : List Ws) (pend : List (Int × Ws)) : Prop where
  S : StAt H st c
  fdl : ∃ xs, H dl = some (.lst xs) ∧ FtAll H (dur.map wd) xs
  fpl : ∃ xs, H pl = some (.lst xs) ∧ FtAll H (pend.map pw) xs
  n1 : dl ≠ st ∧ dl ≠ c ∧ pl ≠ st ∧ pl ≠ c ∧ dl ≠ pl
section
variable {H H' : Hp} {st c dl pl : Addr} {dur : List Ws} {pend : List (Int × Ws)} {fp fp' : List Addr}
theorem Wl.draw (W : Wl H st c dl pl dur pend) (g : Chg [st, c] fp' H H') (S : StAt H' st c) : Wl H' st c dl pl dur pend := by
  obtain ⟨xs, x1, x2⟩ := W.fdl
  obtain ⟨ys, y1, y2⟩ := W.fpl
  obtain ⟨a1, a2, a3, a4, a5⟩ := W.n1
  exact ⟨S, ⟨xs, g.keep _ _ x1 (no2 a1 a2), x2.mono g.tups⟩, ⟨ys, g.keep _ _ y1 (no2 a3 a4), y2.mono g.tups⟩, W.n1⟩
theorem Wl.aside (W : Wl H st c dl pl dur pend) (g : Chg [] fp' H H') : Wl H' st c dl pl dur pend := by
  obtain ⟨xs, x1, x2⟩ := W.fdl
  obtain ⟨ys, y1, y2⟩ := W.fpl
  exact ⟨W.S.keep g (by intro h; cases h) (by intro h; cases h), ⟨xs, g.keep _ _ x1 (by intro h; cases h), x2.mono g.tups⟩, ⟨ys, g.keep _ _ y1 (by intro h; cases h), y2.mono g.tups⟩, W.n1⟩
theorem Wl.setPl (W : Wl H st c dl pl dur pend) {pend2 : List (Int × Ws)} {ys : List V} (f : FtAll H (pend2.map pw) ys) : Wl (upd H pl (.lst ys)) st c dl pl dur pend2 := by
  obtain ⟨xs, x1, x2⟩ := W.fdl
  obtain ⟨ys0, y1, y2⟩ := W.fpl
  obtain ⟨a1, a2, a3, a4, a5⟩ := W.n1
  have g : Chg [pl] [pl] H (upd H pl (.lst ys)) := Chg.set y1 (.head _) (fun _ z => by cases z) _
  exact ⟨W.S.keep g (no1 (Ne.symm a3)) (no1 (Ne.symm a4)), ⟨xs, g.keep _ _ x1 (no1 a5), x2.mono g.tups⟩, ⟨ys, upd_same, f.mono g.tups⟩, W.n1⟩
end
/-- tuple([_law_draw(state, 16) for j in range(width)]) -/
theorem lc_draws {st c d : Addr} {H : Hp} {n : Nat} {Qd : Hp → Prop} {B : V → Hp → (Hp → Prop) → Prop} (S : StAt H st c) (nd : H d = none) (hn : n ≤ 1000)
    (hs : ∀ (x : V) (H1 : Hp) (Nx : Hp → Prop), StAt H1 st c → (∀ (r : Int) (H2 : Hp), Go st c H1 H2 → ∃ acc, H2 d = some (.lst acc) ∧ acc.length < sizeLine ∧ Nx (upd H2 d (.lst (acc ++ [.int r])))) → B x H1 Nx)
    (hd : ∀ (H' : Hp) (ws : List Int), Chg [st, c] [st, c] H H' → StAt H' st c → H' d = some (.lst (ws.map V.int)) → ws.length = n → Qd H') :
    ∃ W : Nat → Nat → Hp → Prop, (∃ m, W 0 m (upd H d (.lst []))) ∧ ∀ i m H', W i m H' →
      ((Itr 0 n).stop i H' ∧ Qd H') ∨ ((Itr 0 n).go i H' ∧ ∃ Nx : Hp → Prop, (∀ H', Nx H' → ∃ m', m' < m ∧ W (i + 1) m' H') ∧ ∀ x H1, (Itr 0 n).yld i H' x H1 → B x H1 Nx) := by
  obtain ⟨f1, f2⟩ := S.free nd
  obtain ⟨j1, j2, j3⟩ := wk_range (fp := [st, c]) (H0 := H) (n := n) (Iv := fun _ H => StAt H st c)
  refine lc_chg (fun _ z v => v = V.int z) (fun _ H => StAt H st c) (fun _ _ => True) (fun _ _ _ _ _ _ h => h) nd (no2 f1 f2) (by omega) (fun _ _ _ S _ => stAt_upd S f1 f2) S j1 j2 j3 ?_ ?_
  · intro i x H1 acc hi hx g S1 hacc Nx k
    exact hs x H1 Nx S1 fun r H2 g2 => k _ _ r (g2.chg S1) g2.st rfl trivial
  · intro H' zs acc g S' hacc he hl hz
    have e : acc = zs.map V.int := by
      clear hacc hl hz
      induction zs generalizing acc with
      | nil => cases acc with
        | nil => rfl
        | cons _ _ => exact he.elim
      | cons z zs ih => cases acc with
        | nil => exact he.elim
        | cons x acc => rw [he.1, ih acc he.2]; rfl
    rw [e] at hacc
    exact hd H' zs g S' hacc hl
section
variable {P : Program} {w : World} {K : PySem.W.Frag} {mg : Str → Option Value} {base : Heap} {D : Defs}
theorem sc_law : FnScope ["script", "state", "sectors", "width", "durable", "k", "pending", "sector", "words", "snapshot", "tears", "due", "first", "images", "row", "contents", "j", "pair"] ["script"] (defScope s_law) := ⟨rfl, rfl, rfl, by decide +kernel, rfl, by decide +kernel, by decide +kernel⟩
theorem ok_lawG (O : Ok P K mg D) (G_distinct : FnOkz P w K mg base 40 D.fdistinct D.ddistinct ["snapshot", "tears"] spDistinct) : FnOkz P w K mg base 46 D.flaw D.dlaw ["script"] (spLaw K) := by
  have G__law_state : FnOk P w K mg base CX0 1 D.f_law_state D.d_law_state ["script"] (spState K) := ok_state O
  have G__law_draw : FnOk P w K mg base CX0 1 D.f_law_draw D.d_law_draw ["state", "many"] spDraw := ok_draw O
  have G__law_left : FnOk P w K mg base CX0 1 D.f_law_left D.d_law_left ["snapshot", "sector", "tears"] spOutc := ok_left O
  have G__law_all : FnOk P w K mg base CX0 2 D.f_law_all D.d_law_all ["snapshot", "tears"] spAll := ok_all O
  have G_choices : FnOk P w K mg base CX0 2 D.fchoices D.dchoices ["snapshot", "sector", "tears"] spChoices := ok_choices O
  have G_image : FnOk P w K mg base CX0 2 D.fimage D.dimage ["snapshot", "tears", "row"] spImage := ok_image O
  have G_rows : FnOk P w K mg base CX0 3 D.frows D.drows ["snapshot", "tears"] spRows := ok_rows O
  refine okz O.Flaw sc_law (fun vs H Q E h => ?_) (fun cdv A outer s H vs Q E hr h => ?_)
  · obtain ⟨a, ns, rfl, _⟩ := h
    rfl
  obtain ⟨a, ns, rfl, hS, hlen, q⟩ := h
  have nd := sc_law.nd
  have hu := hu_of hr
  have bk : ∀ own scope, blkC ["script", "state", "sectors", "width", "durable", "k", "pending", "sector", "words", "snapshot", "tears", "due", "first", "images", "row", "contents", "j", "pair"] (defScope s_law) scope own = true → BlkOk ["script", "state", "sectors", "width", "durable", "k", "pending", "sector", "words", "snapshot", "tears", "due", "first", "images", "row", "contents", "j", "pair"] (defScope s_law) scope own := fun own scope h => blkOk_by h
  refine ⟨_, (zs_cons (zs_ps rfl (ps_set (i := 1) nd rfl (Or.inr rfl) (pe_call G__law_state (hr.mono (by omega)) rfl O.m_law_state O.F_law_state.kp O.b_law_state .nil pass0 (pa_cons (pv 0) pa_nil))))
    (zs_cons (zs_ps rfl (ps_set (i := 2) nd rfl (Or.inl rfl) (pe_op op_add pe_int (pe_call G__law_draw (hr.mono (by omega)) rfl O.m_law_draw O.F_law_draw.kp O.b_law_draw .nil pass0 (pa_cons (pv 1) (pa_cons pe_int pa_nil))))))
    (zs_cons (zs_ps rfl (ps_set (i := 3) nd rfl (Or.inl rfl) (pe_op op_add pe_int (pe_call G__law_draw (hr.mono (by omega)) rfl O.m_law_draw O.F_law_draw.kp O.b_law_draw .nil pass0 (pa_cons (pv 1) (pa_cons pe_int pa_nil))))))
    (zs_cons (zs_ps rfl (ps_set (i := 4) nd rfl (Or.inl rfl) (pe_lst pa_nil)))
    (zs_cut (zs_ps rfl (ps_for PassesOwn.never rfl (pi_range1 (by rfl) O.zrange (pa_cons (pv 2) pa_nil)) (pg_name (i := 5) nd rfl (Or.inl rfl)) (pss_one (ps_expr (pe_bm PySem.F.plainAttrs_list PySem.F.slot_list_append PySem.F.type_list_append mt_append (pv 4) (pa_cons (pe_callTy (r := rTupOf K) call_tupK (by rfl) O.ztuple PyProof.Rows.boot_tuple (pa_cons (pe_lc (own := [("j", 16)]) (g := gName 16) (by rfl) nd (pi_range1 (by rfl) O.zrange (pa_cons (pv 3) pa_nil)) (bk [("j", 16)] _ (by decide +kernel)) (fun _ _ _ _ _ => (pg_name (i := 16) nd rfl (Or.inl rfl))) (fun _ _ _ _ _ => pts_nil) (fun _ _ _ _ _ => (pe_call G__law_draw (hr.mono (by omega)) rfl O.m_law_draw O.F_law_draw.kp O.b_law_draw .nil pass0 (pa_cons (pv 1) (pa_cons pe_int pa_nil))))) pa_nil)) pa_nil))))))
    (zs_cons (zs_ps rfl (ps_set (i := 6) nd rfl (Or.inl rfl) (pe_lst pa_nil)))
    (zs_cut (zs_ps rfl (ps_for PassesOwn.never rfl (pi_range1 (by rfl) O.zrange (pa_cons (pe_call G__law_draw (hr.mono (by omega)) rfl O.m_law_draw O.F_law_draw.kp O.b_law_draw .nil pass0 (pa_cons (pv 1) (pa_cons pe_int pa_nil))) pa_nil)) (pg_name (i := 5) nd rfl (Or.inl rfl)) (pss_cons (ps_set (i := 7) nd rfl (Or.inl rfl) (pe_call G__law_draw (hr.mono (by omega)) rfl O.m_law_draw O.F_law_draw.kp O.b_law_draw .nil pass0 (pa_cons (pv 1) (pa_cons (pv 2) pa_nil))))
    (pss_cons (ps_set (i := 8) nd rfl (Or.inl rfl) (pe_callTy (r := rTupOf K) call_tupK (by rfl) O.ztuple PyProof.Rows.boot_tuple (pa_cons (pe_lc (own := [("j", 16)]) (g := gName 16) (by rfl) nd (pi_range1 (by rfl) O.zrange (pa_cons (pv 3) pa_nil)) (bk [("j", 16)] _ (by decide +kernel)) (fun _ _ _ _ _ => (pg_name (i := 16) nd rfl (Or.inl rfl))) (fun _ _ _ _ _ => pts_nil) (fun _ _ _ _ _ => (pe_call G__law_draw (hr.mono (by omega)) rfl O.m_law_draw O.F_law_draw.kp O.b_law_draw .nil pass0 (pa_cons (pv 1) (pa_cons pe_int pa_nil))))) pa_nil)))
    (C8.pss_cut (ps_if (pt_cmpR op_eq (pe_call G__law_draw (hr.mono (by omega)) rfl O.m_law_draw O.F_law_draw.kp O.b_law_draw .nil pass0 (pa_cons (pv 1) (pa_cons pe_int pa_nil))) pe_int (nomark _)) (pss_one (ps_set (i := 8) nd rfl (Or.inl rfl) (pe_ix (r := rIxL K) ix_list (pv 4) (pv 7) (fun _ _ => rfl)))) pss_nil)
    (pss_one (ps_expr (pe_bm PySem.F.plainAttrs_list PySem.F.slot_list_append PySem.F.type_list_append mt_append (pv 6) (pa_cons (pe_tup (pa_cons (pv 7) (pa_cons (pv 8) pa_nil))) pa_nil)))))))))
    (zs_cons (zs_ps rfl (ps_set (i := 9) nd rfl (Or.inl rfl) (pe_tup (pa_cons (pe_callTy (r := rTupOf K) call_tupK (by rfl) O.ztuple PyProof.Rows.boot_tuple (pa_cons (pv 4) pa_nil)) (pa_cons (pe_callTy (r := rTupOf K) call_tupK (by rfl) O.ztuple PyProof.Rows.boot_tuple (pa_cons (pv 6) pa_nil)) pa_nil)))))
    (zs_cons (zs_for rfl rfl (pi_listK (K := K) (pe_lst (pa_cons pe_bl (pa_cons pe_bl pa_nil)))) (pg_name (i := 10) nd rfl (Or.inl rfl)) (zs_cons (zs_ps rfl (ps_set (i := 11) nd rfl (Or.inl rfl) (pe_call G__law_all (hr.mono (by omega)) rfl O.m_law_all O.F_law_all.kp O.b_law_all .nil pass0 (pa_cons (pv 9) (pa_cons (pv 10) pa_nil)))))
    (zs_cons (zs_ps rfl (ps_if (pt_cmpR (r := rNeD K) (op_neD hr.units) (pe_call G_rows (hr.mono (by omega)) rfl O.mrows O.Frows.kp O.brows .nil pass0 (pa_cons (pv 9) (pa_cons (pv 10) pa_nil))) (pe_lc (own := [("pair", 17)]) (g := gName 17) (by rfl) nd (pi_listK (K := K) (pv 11)) (bk [("pair", 17)] _ (by decide +kernel)) (fun _ _ _ _ _ => (pg_name (i := 17) nd rfl (Or.inl rfl))) (fun _ _ _ _ _ => pts_nil) (fun _ _ _ _ _ => (pe_ix (r := rIxT K) ix_tup (pv 17) pe_int (fun _ _ => rfl)))) (nomark _)) (pss_one (ps_ret pe_bl)) pss_nil))
    (zs_cut (zs_ps rfl (ps_for PassesOwn.never rfl (pi_range1 (by rfl) O.zrange (pa_cons (pv 2) pa_nil)) (pg_name (i := 7) nd rfl (Or.inl rfl)) (pss_one (ps_if (pt_cmpR op_ne (pe_call G_choices (hr.mono (by omega)) rfl O.mchoices O.Fchoices.kp O.bchoices .nil pass0 (pa_cons (pv 9) (pa_cons (pv 7) (pa_cons (pv 10) pa_nil)))) (pe_callB (r := rLenQ K) call_lenK (by rfl) O.zlen PySem.boot_len (pa_cons (pe_call G__law_left (hr.mono (by omega)) rfl O.m_law_left O.F_law_left.kp O.b_law_left .nil pass0 (pa_cons (pv 9) (pa_cons (pv 7) (pa_cons (pv 10) pa_nil)))) pa_nil)) (nomark _)) (pss_one (ps_ret pe_bl)) pss_nil))))
    (zs_cons (zs_ps rfl (ps_set (i := 12) nd rfl (Or.inl rfl) (pe_lst pa_nil)))
    (zs_cons (zs_ps rfl (ps_set (i := 13) nd rfl (Or.inl rfl) pe_dnewN))
    (zs_cut (zs_ps rfl (ps_for PassesOwn.never rfl (pi_listK (K := K) (pv 11)) (pg_tup rfl (pgs_cons (pg_name (i := 14) nd rfl (Or.inl rfl)) (pgs_cons (pg_name (i := 15) nd rfl (Or.inl rfl)) pgs_nil))) (pss_cons (ps_if (pt_cmpR (r := rNeD K) (op_neD hr.units) (pe_call G_image (hr.mono (by omega)) rfl O.mimage O.Fimage.kp O.bimage .nil pass0 (pa_cons (pv 9) (pa_cons (pv 10) (pa_cons (pv 14) pa_nil)))) (pv 15) (nomark _)) (pss_one (ps_ret pe_bl)) pss_nil)
    (pss_one (ps_if (pt_cmp (pc_notinN hr.units (pv 15) (pv 13))) (pss_cons (ps_dputN hr.units (pv 13) (pv 15) pe_bl rfl)
    (pss_one (ps_expr (pe_bm PySem.F.plainAttrs_list PySem.F.slot_list_append PySem.F.type_list_append mt_append (pv 12) (pa_cons (pe_tup (pa_cons (pv 14) (pa_cons (pv 15) pa_nil))) pa_nil))))) pss_nil)))))
    (zs_one (zs_if (zt_cmp rfl (r := rNeD K) (op_neD hr.units) (ze_call (E := E) rfl G_distinct (hr.mono (by omega)) rfl O.mdistinct O.Fdistinct.kp O.bdistinct .nil (pa_cons (pv 9) (pa_cons (pv 10) pa_nil))) (ze_pe rfl (pv 12)) (nomark _)) (zs_one (zs_ps rfl (ps_ret pe_bl))) zs_nil)))))))))
    (zs_one (zs_ps rfl (ps_ret pe_bl)))))))))))), ?_⟩
  refine ⟨_, rfl, a, ns, rfl, hS, hlen, fun st c H1 s1 nst nc S1 => ?_⟩
  refine ⟨_, rfl, st, c, 4, rfl, S1, by decide, by decide, fun r1 H2 a1 a2 g2 => ⟨_, _, rfl, rfl, ?_⟩⟩
  refine ⟨_, rfl, st, c, 4, rfl, g2.st, by decide, by decide, fun r2 H3 b1 b2 g3 => ⟨_, _, rfl, rfl, ?_⟩⟩
  refine ⟨Nat.zero_le _, fun dl ndl => ?_⟩
  have S3 := g3.st
  obtain ⟨nd1, nd2⟩ := S3.free ndl
  refine ⟨fun σ H' => ∃ (x5 : Option V) (dur : List Ws), σ = [some (.ref a), some (.ref st), some (.int (1 + r1)), some (.int (1 + r2)), some (.ref dl), x5, none, none, none, none, none, none, none, none, none, none, none, none] ∧ StAt H' st c ∧ (∃ xs, H' dl = some (.lst xs) ∧ FtAll H' (dur.map wd) xs) ∧ dur.length = (1 + r1).toNat ∧ ∀ ws ∈ dur, ws.length = (1 + r2).toNat, ?_, ?_⟩
  · refine ⟨_, rfl, 1 + r1, rfl, by omega, by omega, ?_⟩
    refine for_range (lo := 0) (n := (1 + r1).toNat) (fun i σ H' => ∃ (x5 : Option V) (dur : List Ws), σ = [some (.ref a), some (.ref st), some (.int (1 + r1)), some (.int (1 + r2)), some (.ref dl), x5, none, none, none, none, none, none, none, none, none, none, none, none] ∧ StAt H' st c ∧ (∃ xs, H' dl = some (.lst xs) ∧ FtAll H' (dur.map wd) xs) ∧ dur.length = i ∧ ∀ ws ∈ dur, ws.length = (1 + r2).toNat)
      ⟨none, [], rfl, stAt_upd S3 nd1 nd2, ⟨[], upd_same, .nil⟩, rfl, fun ws h => by cases h⟩ ?_ ?_
    · rintro i σ H' hi ⟨x5, dur, rfl, S', ⟨xs, x1, x2⟩, ld, lw⟩
      have lx := x2.len
      rw [List.length_map] at lx
      refine ⟨_, rfl, .inl ⟨rfl, _, SqL.of x1⟩, _, rfl, 1 + r2, rfl, by omega, by omega, fun d nd => ?_⟩
      refine lc_draws S' nd (by omega) ?_ ?_
      · intro x H5 Nx S5 k
        refine ⟨rfl, yes (iteT ?_)⟩
        exact ⟨_, rfl, st, c, _, rfl, S5, by decide, by decide, fun r H6 _ _ g6 => k r H6 g6⟩
      · intro H5 ws g5 S5 hd5 lws
        refine ⟨d, _, rfl, .inl ⟨SqL.of hd5, fun t nt => ?_⟩⟩
        have g6 : Chg [] [] H5 (upd H5 t (.tup (ws.map V.int))) := Chg.mk0 nt _
        have x1' := g6.keep _ _ (g5.keep _ _ x1 (no2 nd1 nd2)) (by intro h; cases h)
        have x2' := (x2.mono g5.tups).mono g6.tups
        have fw : Ft (upd H5 t (.tup (ws.map V.int))) (wd ws) (.ref t) := Ft.mkWd upd_same
        have S6 := S5.keep g6 (by intro h; cases h) (by intro h; cases h)
        have tu := tups_own (o' := .lst (xs ++ [.ref t])) x1' (fun xs z => by cases z)
        refine ⟨dl, xs, _, rfl, rfl, x1', sl (by omega), _, dur ++ [ws], rfl, stAt_upd S6 nd1 nd2, ⟨_, upd_same, ?_⟩, by rw [List.length_append, ld]; rfl, fun w h => ?_⟩
        · rw [List.map_append]
          exact (x2'.mono tu).app (.cons (fw.mono tu) .nil)
        · rcases List.mem_append.mp h with h | h
          · exact lw w h
          · rw [List.mem_singleton.mp h]; exact lws
    · rintro σ H' h
      exact h
  rintro σ H4 ⟨x5, dur, rfl, S4, ⟨xs, x1, x2⟩, ld, lw⟩
  refine ⟨Nat.zero_le _, fun pl npl => ?_⟩
  obtain ⟨np1, np2⟩ := S4.free npl
  have nlp : dl ≠ pl := ne_of_none x1 npl
  have W0 : Wl (upd H4 pl (.lst [])) st c dl pl dur [] := by
    have g : Chg [] [] H4 (upd H4 pl (.lst [])) := Chg.mk0 npl _
    exact ⟨S4.keep g (by intro h; cases h) (by intro h; cases h), ⟨xs, g.keep _ _ x1 (by intro h; cases h), x2.mono g.tups⟩, ⟨[], upd_same, .nil⟩, nd1, nd2, np1, np2, nlp⟩
  generalize upd H4 pl (.lst []) = H5 at W0
  let sg : Option V → Option V → Option V → L2.St := fun x5 x7 x8 => [some (.ref a), some (.ref st), some (.int (1 + r1)), some (.int (1 + r2)), some (.ref dl), x5, some (.ref pl), x7, x8, none, none, none, none, none, none, none, none, none]
  refine ⟨fun σ H' => ∃ (x5 x7 x8 : Option V) (pend : List (Int × Ws)), σ = sg x5 x7 x8 ∧ Wl H' st c dl pl dur pend ∧ pend.length ≤ 5 ∧ ∀ p ∈ pend, p.2.length = (1 + r2).toNat, ?_, ?_⟩
  · refine ⟨_, rfl, st, c, 6, rfl, W0.S, by decide, by decide, fun rn H6 n1 n2 g6 => ⟨rn, rfl, by omega, by omega, ?_⟩⟩
    have W1 := W0.draw (g6.chg W0.S) g6.st
    refine for_range (lo := 0) (n := rn.toNat) (fun i σ H' => ∃ (x5 x7 x8 : Option V) (pend : List (Int × Ws)), σ = sg x5 x7 x8 ∧ Wl H' st c dl pl dur pend ∧ pend.length ≤ i ∧ ∀ p ∈ pend, p.2.length = (1 + r2).toNat)
      ⟨x5, none, none, [], rfl, W1, Nat.le_refl _, fun p h => by cases h⟩ ?_ ?_
    · rintro i σ H' hi ⟨x5, x7, x8, pend, rfl, W, lp, lpw⟩
      refine ⟨_, rfl, _, rfl, st, c, 1 + r1, rfl, W.S, by omega, by omega, fun sec H7 s0 s1' g7 => ?_⟩
      have W2 := W.draw (g7.chg W.S) g7.st
      refine ⟨_, rfl, 1 + r2, rfl, by omega, by omega, fun d nd => ?_⟩
      refine lc_draws W2.S nd (by omega) ?_ ?_
      · intro x H8 Nx S8 k
        refine ⟨rfl, yes (iteT ?_)⟩
        exact ⟨_, rfl, st, c, _, rfl, S8, by decide, by decide, fun r H9 _ _ g9 => k r H9 g9⟩
      intro H8 ws g8 S8 hd8 lws
      have W3 := W2.draw g8 S8
      refine ⟨d, _, rfl, .inl ⟨SqL.of hd8, fun t nt => ?_⟩⟩
      have g9 : Chg [] [] H8 (upd H8 t (.tup (ws.map V.int))) := Chg.mk0 nt _
      have W4 := W3.aside g9
      have fw : Ft (upd H8 t (.tup (ws.map V.int))) (wd ws) (.ref t) := Ft.mkWd upd_same
      generalize upd H8 t (.tup (ws.map V.int)) = H9 at W4 fw
      refine ⟨fun σ H' => ∃ (v8 : V) (ws' : Ws), σ = sg (some (.int (0 + (i : Int)))) (some (.int sec)) (some v8) ∧ Ft H' (wd ws') v8 ∧ ws'.length = (1 + r2).toNat ∧ Wl H' st c dl pl dur pend, ?_, ?_⟩
      · refine ⟨_, rfl, st, c, 4, rfl, W4.S, by decide, by decide, fun r H10 _ _ g10 => ⟨rfl, _, rfl, ite2 (fun _ => ?_) (fun _ => ?_)⟩⟩
        · have W5 := W4.draw (g10.chg W4.S) g10.st
          obtain ⟨xs, x1, x2⟩ := W5.fdl
          have hs : sec.toNat < dur.length := by omega
          obtain ⟨x, hx, fx⟩ := x2.get (i := sec.toNat) (d := wd dur[sec.toNat]) (by rw [List.getElem?_map, List.getElem?_eq_getElem hs]; rfl)
          exact ⟨_, rfl, _, rfl, dl, xs, sec, x, rfl, rfl, SqL.of x1, at_of (j := sec.toNat) (by omega) hx, x, dur[sec.toNat], rfl, fx, lw _ (List.getElem_mem hs), W5⟩
        · exact ⟨.ref t, ws, rfl, fw.mono (g10.chg W4.S).tups, lws, W4.draw (g10.chg W4.S) g10.st⟩
      · rintro σ H10 ⟨v8, ws', rfl, f8, l8, W5⟩
        obtain ⟨ys, y1, y2⟩ := W5.fpl
        have ly := y2.len
        rw [List.length_map] at ly
        refine ⟨_, rfl, .inl ⟨rfl, _, SqL.of y1⟩, _, rfl, _, rfl, (by show 2 ≤ sizeLine; decide), fun u nu => ?_⟩
        have g11 : Chg [] [] H10 (upd H10 u (.tup [.int sec, v8])) := Chg.mk0 nu _
        have W6 := W5.aside g11
        refine ⟨pl, ys, _, rfl, rfl, g11.keep _ _ y1 (by intro h; cases h), sl (by omega), ?_⟩
        have W7 := W6.setPl (pend2 := pend ++ [(sec, ws')]) (ys := ys ++ [.ref u]) (by
          rw [List.map_append]
          exact (y2.mono g11.tups).app (.cons (Ft.mkTup upd_same (.cons (Ft.mkInt _) (.cons (f8.mono g11.tups) .nil))) .nil))
        refine ⟨_, _, _, pend ++ [(sec, ws')], rfl, W7, by rw [List.length_append, List.length_singleton]; omega, fun p h => ?_⟩
        rcases List.mem_append.mp h with h | h
        · exact lpw p h
        · rw [List.mem_singleton.mp h]; exact l8
    · rintro σ H' ⟨x5, x7, x8, pend, rfl, W, lp, lpw⟩
      exact ⟨x5, x7, x8, pend, rfl, W, by omega, lpw⟩
  rintro σ H6 ⟨x5, x7, x8, pend, rfl, W, lp, lpw⟩
  obtain ⟨xs, x1, x2⟩ := W.fdl
  obtain ⟨ys, y1, y2⟩ := W.fpl
  have G : Good (1 + r2).toNat dur pend := ⟨by omega, by omega, lw, lpw, by omega⟩
  refine ⟨_, rfl, dl, xs, rfl, .inl ⟨SqL.of x1, fun t1 nt1 => ?_⟩⟩
  have g1 : Chg [] [] H6 (upd H6 t1 (.tup xs)) := Chg.mk0 nt1 _
  refine ⟨_, rfl, pl, ys, rfl, .inl ⟨SqL.of (g1.keep _ _ y1 (by intro h; cases h)), fun t2 nt2 => ?_⟩⟩
  have g2 := g1.trans (Chg.mk0 nt2 (.tup ys))
  refine ⟨(by show 2 ≤ sizeLine; decide), fun sp nsp => ?_⟩
  have g3 := g2.trans (Chg.mk0 nsp (.tup [.ref t1, .ref t2]))
  have hv : Ft (upd (upd (upd H6 t1 (.tup xs)) t2 (.tup ys)) sp (.tup [.ref t1, .ref t2])) (snap dur pend) (.ref sp) := by
    refine Ft.mkTup upd_same (.cons (Ft.mkTup (xs := xs) ?_ (x2.mono g3.tups)) (.cons (Ft.mkTup (xs := ys) ?_ (y2.mono g3.tups)) .nil))
    · exact (Chg.trans (fp := []) (Chg.mk0 (fp := []) nt2 (.tup ys)) (Chg.mk0 nsp (.tup [.ref t1, .ref t2]))).tups _ _ upd_same
    · exact (Chg.mk0 (fp := []) nsp (.tup [.ref t1, .ref t2])).tups _ _ upd_same
  generalize upd (upd (upd H6 t1 (.tup xs)) t2 (.tup ys)) sp (.tup [.ref t1, .ref t2]) = Hs at hv
  refine ⟨(by show 2 ≤ sizeLine; decide), fun tl ntl => ?_⟩
  have gt : Chg [] [] Hs (upd Hs tl (.lst [.bl false, .bl true])) := Chg.mk0 ntl _
  have hv1 := hv.mono gt.tups
  have htl : upd Hs tl (.lst [.bl false, .bl true]) tl = some (.lst [.bl false, .bl true]) := upd_same
  generalize upd Hs tl (.lst [.bl false, .bl true]) = Hb at hv1 htl
  refine ⟨tl, rfl, ⟨_, SqL.of htl⟩, ?_⟩
  let s2 : List (Option V) → L2.St := fun r => some (.ref a) :: some (.ref st) :: some (.int (1 + r1)) :: some (.int (1 + r2)) :: some (.ref dl) :: x5 :: some (.ref pl) :: r
  refine for_list (K := K) (a := tl) (xs := [.bl false, .bl true]) (fun i σ H' => ∃ x7 x8 x10 x11 x12 x13 x14 x15, σ = s2 [x7, x8, some (.ref sp), x10, x11, x12, x13, x14, x15, none, none] ∧ Chg [] [] Hb H')
    ⟨x7, x8, none, none, none, none, none, none, rfl, Chg.refl _ _⟩ (fun i σ H' _ ⟨_, _, _, _, _, _, _, _, _, g⟩ => SqL.of (g.keep _ _ htl (by intro h; cases h))) ?_ (fun σ H' _ => q _)
  rintro i y σ H7 hi ⟨x7, x8, x10, x11, x12, x13, x14, x15, rfl, g7⟩
  obtain ⟨t, rfl⟩ : ∃ t, y = .bl t := by
    have := List.mem_of_getElem? hi
    simp only [List.mem_cons, List.not_mem_nil, or_false] at this
    rcases this with h | h
    · exact ⟨_, h⟩
    · exact ⟨_, h⟩
  have hv7 := hv1.mono g7.tups
  have hdl : dur.length ≤ 4 := by omega
  have big := bound4 (t := t) G (by omega) lp hdl
  refine ⟨_, rfl, _, rfl, .ref sp, t, dur, pend, _, rfl, hv7, G, by omega, big, fun H8 du ndu L8 => ?_⟩
  generalize hall : allL (outs t dur pend dur.length) = all at *
  obtain ⟨acc, k1, k2, k3⟩ := L8
  have lk := k2.len
  rw [List.length_map] at lk
  have hv8 := hv7.mono k3.tups
  refine ⟨_, rfl, _, rfl, .ref sp, t, dur, pend, _, rfl, hv8, G, by omega, by rw [hall]; exact big, fun H9 rl nrl L9 => ?_⟩
  rw [hall] at L9
  obtain ⟨racc, m1, m2, m3⟩ := L9
  have k1' := m3.keep _ _ k1 (by intro h; cases h)
  refine ⟨_, rfl, du, rfl, ⟨acc, SqL.of k1'⟩, fun d nd => ?_⟩
  refine it_loop (n := acc.length) (fun j H10 => LAt d H9 ((all.take j).map fun p => wd p.1) H10) (LAt.start nd) (fun H10 L10 => ⟨⟨acc, SqL.of (L10.chg.keep _ _ k1' (by intro h; cases h)), Nat.le_refl _⟩, ?_⟩)
    (fun j H10 hj L10 => ⟨acc, acc[j], SqL.of (L10.chg.keep _ _ k1' (by intro h; cases h)), List.getElem?_eq_getElem hj⟩) ?_
  rotate_left
  · intro j y H10 H11 hj L10 yl
    obtain ⟨rfl, yy⟩ := yl
    have hy := yy acc (SqL.of (L10.chg.keep _ _ k1' (by intro h; cases h)))
    have hpj : all[j]? = some (all[j]'(by omega)) := List.getElem?_eq_getElem (by omega)
    generalize all[j]'(by omega) = pj at hpj
    obtain ⟨y', hy', fy⟩ := k2.get (i := j) (d := pr pj) (by rw [List.getElem?_map, hpj]; rfl)
    rw [hy] at hy'
    cases hy'
    obtain ⟨qa, ra, rb, cs', rfl, hq1, hra, hrb, frb⟩ := fy.ofPr
    have tt := (m3.trans L10.chg).tups
    refine ⟨rfl, yes (iteT ?_)⟩
    refine ⟨_, rfl, qa, _, 0, .ref ra, rfl, rfl, SqT.of (tt _ _ hq1), at_of (j := 0) rfl rfl, ?_⟩
    have := L10.push (e := wd pj.1) (y := .ref ra) nd (Chg.refl _ _) (Ft.mkWd (tt _ _ hra)) (by rw [List.length_map, List.length_take]; exact sl (by omega))
    rw [List.take_add_one, hpj, List.map_append]
    exact this
  rw [lk, List.take_length] at L10
  obtain ⟨dacc, u1, u2, u3⟩ := L10
  have m1' := u3.keep _ _ m1 (by intro h; cases h)
  have sh1 := shp_list (n := 1) (f := fun p : RC => wd p.1) (fun p => shp_wd _) all
  refine ⟨_, _, .lst (SqL.of m1') ((m2.mono u3.tups).dp K), .lst (SqL.of u1) (u2.dp K), sh1.ok (by decide), sh1.ok (by decide), ?_⟩
  rw [sh1.eq]
  refine ⟨_, rfl, iteF ?_⟩
  have k1b := u3.keep _ _ k1' (by intro h; cases h)
  have k2b := (k2.mono m3.tups).mono u3.tups
  have g10 : Chg [] [] Hb H10 := ((g7.trans k3).trans m3).trans u3
  clear m1' sh1 u1 u2 m1 m2
  -- the choices
  refine ⟨fun σ H' => ∃ x7, σ = s2 [x7, x8, some (.ref sp), some (.bl t), some (.ref du), x12, x13, x14, x15, none, none] ∧ Chg [] [] H10 H', ?_, ?_⟩
  · refine ⟨_, rfl, 1 + r1, rfl, by omega, by omega, ?_⟩
    refine for_range (lo := 0) (n := (1 + r1).toNat) (fun _ σ H' => ∃ x7, σ = s2 [x7, x8, some (.ref sp), some (.bl t), some (.ref du), x12, x13, x14, x15, none, none] ∧ Chg [] [] H10 H') ⟨x7, rfl, Chg.refl _ _⟩ ?_ (fun σ H' h => h)
    rintro j σ H11 hj ⟨x7, rfl, g11⟩
    have e0j : (0 : Int) + (j : Int) = (j : Int) := Int.zero_add _
    have hv11 := hv1.mono (g10.trans g11).tups
    refine ⟨_, rfl, _, rfl, _, rfl, .ref sp, j, t, dur, pend, _, by rw [e0j]; rfl, hv11, G, by omega, fun H12 c12 => ?_⟩
    refine ⟨_, rfl, _, rfl, _, rfl, .ref sp, j, t, dur, pend, _, by rw [e0j]; rfl, hv11.mono c12.tups, G, by omega, fun H13 l nl L13 => ?_⟩
    obtain ⟨a13, p1, p2, p3⟩ := L13
    refine ⟨l, a13, rfl, .inl (SqL.of p1), rfl, _, rfl, ?_⟩
    have e := p2.len
    rw [List.length_map] at e
    rw [e]
    exact iteNS rfl ⟨_, rfl, (g11.trans c12).trans p3⟩
  rintro σ H11 ⟨x7, rfl, g11⟩
  have hv11 := hv1.mono (g10.trans g11).tups
  have k1c := g11.keep _ _ k1b (by intro h; cases h)
  have k2c := k2b.mono g11.tups
  refine ⟨Nat.zero_le _, fun fl nfl im nim => ?_⟩
  have gf : Chg [] [] H11 (upd H11 fl (.lst [])) := Chg.mk0 nfl _
  have nim0 := gf.dom _ nim
  have nfi : fl ≠ im := fun z => by rw [z, upd_same] at nim; cases nim
  have gi := gf.trans (Chg.mk0 nim (DkN P w im []))
  have ndu : du ≠ fl := ne_of_none k1c nfl
  have ndi : du ≠ im := ne_of_none k1c nim0
  let Pv : Nat → L2.St → Hp → Prop := fun i σ H' => ∃ (kvs : List NRow) (x14 x15 : Option V) (facc : List V), σ = s2 [x7, x8, some (.ref sp), some (.bl t), some (.ref du), some (.ref fl), some (.ref im), x14, x15, none, none] ∧ H' du = some (.lst acc) ∧
    H' fl = some (.lst facc) ∧ FtAll H' ((dd (·.2) (all.take i)).map pr) facc ∧ H' im = some (DkN P w im kvs) ∧ KeysAt H' kvs ∧ kvs.map (fun p => (p.1, p.2.2)) = (dd (·.2) (all.take i)).map (fun p => (ct p.2, V.bl true)) ∧ Chg [] [] H11 H'
  have ldd : ∀ i, (dd (·.2) (all.take i)).length ≤ 1000000 := fun i => by
    have := dd_len (·.2) (all.take i)
    rw [List.length_take] at this
    omega
  refine ⟨Pv all.length, ?_, ?_⟩
  · refine ⟨_, rfl, du, rfl, ⟨acc, SqL.of (gi.keep _ _ k1c (by intro h; cases h))⟩, ?_⟩
    refine for_list (K := K) (a := du) (xs := acc) Pv ⟨[], x14, x15, [], rfl, gi.keep _ _ k1c (by intro h; cases h), (upd_ne nfi).trans upd_same, .nil, upd_same, (fun p hp => by cases hp), rfl, gi⟩ (fun i σ H' _ ⟨_, _, _, _, _, e, _⟩ => SqL.of e) ?_ ?_
    · rintro j y σ H12 hj ⟨kvs, x14, x15, facc, rfl, e1, e2, e3, e4, e5, e6, g12⟩
      have hja : j < acc.length := (List.getElem?_eq_some_iff.mp hj).1
      have hpj : all[j]? = some (all[j]'(by omega)) := List.getElem?_eq_getElem (by omega)
      generalize all[j]'(by omega) = pj at hpj
      obtain ⟨y', hy', fy⟩ := k2c.get (i := j) (d := pr pj) (by rw [List.getElem?_map, hpj]; rfl)
      rw [hj] at hy'
      cases hy'
      obtain ⟨qa, ra, rb, cs', rfl, hq1, hra, hrb, frb⟩ := fy.ofPr
      have hrow : RowOf (outs t dur pend dur.length) pj := allL_row t dur pend dur.length pj (by rw [hall]; exact List.mem_of_getElem? hpj)
      have hlo : (outs t dur pend dur.length).length = dur.length := by unfold outs; rw [List.length_map, List.length_range]
      refine ⟨qa, _, rfl, SqT.of (g12.tups _ _ hq1), rfl, _, _, rfl, _, _, rfl, rfl, ?_⟩
      refine ⟨_, rfl, _, rfl, _, rfl, .ref sp, .ref ra, t, dur, pend, _, pj.1, rfl, hv11.mono g12.tups, G, Ft.mkWd (g12.tups _ _ hra), by rw [hrow.1, hlo], by omega, fun i c hi => ?_, fun v' H13 c13 f13 => ?_⟩
      · have hil : i < dur.length := by
          have := (List.getElem?_eq_some_iff.mp hi).1
          rw [hrow.1, hlo] at this
          exact this
        refine hrow.2.2 i c _ hi ?_
        unfold outs
        rw [List.getElem?_map, List.getElem?_range hil]; rfl
      rw [← hrow.2.1] at f13
      have g13 := g12.trans c13
      have fc : Ft H13 (ct pj.2) (.ref rb) := Ft.mkTup (g13.tups _ _ hrb) (frb.mono g13.tups)
      refine ⟨_, rfl, _, _, f13.dp K, fc.dp K, (shp_ct _).ok (by decide), (shp_ct _).ok (by decide), ?_⟩
      rw [(shp_ct pj.2).eq]
      refine ⟨_, rfl, iteF ?_⟩
      have e1' := c13.keep _ _ e1 (by intro h; cases h)
      have e2' := c13.keep _ _ e2 (by intro h; cases h)
      have e3' := e3.mono c13.tups
      have e4' := c13.keep _ _ e4 (by intro h; cases h)
      have e5' := e5.mono c13.tups
      have step : dd (·.2) (all.take (j + 1)) = ddS (·.2) (dd (·.2) (all.take j)) pj := by
        rw [List.take_add_one, hpj]
        exact dd_snoc _ _ _
      have hdep : (nk (ct pj.2)).depth ≤ 8 := Nat.le_trans (nk_depth_ct _) (by decide)
      have lkv : kvs.length ≤ 1000000 := by
        have h1 := congrArg List.length e6
        rw [List.length_map, List.length_map] at h1
        have := ldd j
        omega
      have lf := e3.len
      rw [List.length_map] at lf
      have lf2 := ldd j
      refine ⟨_, rfl, _, rfl, _, ⟨im, rb, ct pj.2, kvs, rfl, rfl, fc, hdep, e4', e5', rfl⟩, ?_⟩
      cases hz : lkN kvs (nk (ct pj.2)) with
      | some z =>
        refine ⟨_, rfl, iteF ?_⟩
        obtain ⟨x, hx, ex⟩ := (lkN_map e6 (nk (ct pj.2))).mp (by rw [hz]; rfl)
        have this : dd (·.2) (all.take (j + 1)) = dd (·.2) (all.take j) := by
          rw [step]
          unfold ddS
          rw [if_pos (List.mem_map.mpr ⟨x, hx, nk_ct_inj ex⟩)]
        exact ⟨kvs, _, _, facc, rfl, e1', e2', by rw [this]; exact e3', e4', e5', by rw [this]; exact e6, g13⟩
      | none =>
        refine ⟨_, rfl, iteT ?_⟩
        have hnin : ¬ pj.2 ∈ (dd (·.2) (all.take j)).map (·.2) := fun hm => by
          obtain ⟨x, hx, ex⟩ := List.mem_map.mp hm
          have := (lkN_map e6 (nk (ct pj.2))).mpr ⟨x, hx, by rw [show x.2 = pj.2 from ex]⟩
          rw [hz] at this
          cases this
        have this : dd (·.2) (all.take (j + 1)) = dd (·.2) (all.take j) ++ [pj] := by
          rw [step]
          unfold ddS
          rw [if_neg hnin]
        refine ⟨_, rfl, _, rfl, im, rb, ct pj.2, kvs, rfl, rfl, fc, hdep, e4', e5', sl (by omega), hz, ?_⟩
        have tu := tups_own (o' := DkN P w im (kvs ++ [(ct pj.2, rb, .bl true)])) e4' (fun xs z => by cases z)
        have g14 : Chg [] [] H11 (upd H13 im (DkN P w im (kvs ++ [(ct pj.2, rb, .bl true)]))) := chg_own (H5 := H11) nim0 g13 e4' fun xs z => by cases z
        have e1b := (upd_ne (o := DkN P w im (kvs ++ [(ct pj.2, rb, .bl true)])) ndi).trans e1'
        have e2b := (upd_ne (o := DkN P w im (kvs ++ [(ct pj.2, rb, .bl true)])) nfi).trans e2'
        have e3b := e3'.mono tu
        have e4b : upd H13 im (DkN P w im (kvs ++ [(ct pj.2, rb, .bl true)])) im = some (DkN P w im (kvs ++ [(ct pj.2, rb, .bl true)])) := upd_same
        have e5b := (e5'.add (p := (ct pj.2, rb, .bl true)) fc hdep).mono tu
        have hra' : upd H13 im (DkN P w im (kvs ++ [(ct pj.2, rb, .bl true)])) ra = some (.tup (pj.1.map V.int)) := tu _ _ (g13.tups _ _ hra)
        have fcb := fc.mono tu
        refine ⟨_, rfl, .inl ⟨rfl, _, SqL.of e2b⟩, _, rfl, _, rfl, (by show 2 ≤ sizeLine; decide), fun u nu => ?_⟩
        have gu : Chg [] [] (upd H13 im (DkN P w im (kvs ++ [(ct pj.2, rb, .bl true)]))) (upd (upd H13 im (DkN P w im (kvs ++ [(ct pj.2, rb, .bl true)]))) u (.tup [.ref ra, .ref rb])) := Chg.mk0 nu _
        have e2c := gu.keep _ _ e2b (by intro h; cases h)
        have tu2 := tups_own (o' := .lst (facc ++ [.ref u])) e2c (fun xs z => by cases z)
        refine ⟨fl, facc, _, rfl, rfl, e2c, sl (by omega), kvs ++ [(ct pj.2, rb, .bl true)], _, _, facc ++ [.ref u], rfl, ?_, upd_same, ?_, ?_, ?_, ?_, ?_⟩
        · exact (upd_ne ndu).trans (gu.keep _ _ e1b (by intro h; cases h))
        · rw [this, List.map_append]
          refine ((e3b.mono gu.tups).mono tu2).app (.cons ?_ .nil)
          exact (Ft.mkTup (xs := [.ref ra, .ref rb]) upd_same (.cons (Ft.mkWd (gu.tups _ _ hra')) (.cons (fcb.mono gu.tups) .nil))).mono tu2
        · exact (upd_ne nfi.symm).trans (gu.keep _ _ e4b (by intro h; cases h))
        · exact (e5b.mono gu.tups).mono tu2
        · rw [this, List.map_append, List.map_append, e6]; rfl
        · exact chg_own (H5 := H11) nfl (g14.trans gu) e2c fun xs z => by cases z
    · rintro σ H' h
      rw [lk] at h
      exact h
  rintro σ H12 ⟨kvs, x14, x15, facc, rfl, e1, e2, e3, e4, e5, e6, g12⟩
  rw [List.take_length, ← hall, firsts_all] at e3
  refine ⟨_, rfl, _, rfl, .ref sp, t, dur, pend, _, rfl, hv11.mono g12.tups, G, by omega, by rw [hall]; exact big, fun H13 l nl L13 => ?_⟩
  obtain ⟨a13, p1, p2, p3⟩ := L13
  have sh3 := shp_list (n := 3) (f := pr) shp_pr (firstsL (outs t dur pend dur.length))
  refine ⟨_, rfl, _, _, .lst (SqL.of p1) (p2.dp K), .lst (SqL.of (p3.keep _ _ e2 (by intro h; cases h))) ((e3.mono p3.tups).dp K), sh3.ok (by decide), sh3.ok (by decide), ?_⟩
  rw [sh3.eq]
  exact ⟨_, rfl, iteF ⟨_, _, _, _, _, _, _, _, rfl, ((g10.trans g11).trans g12).trans p3⟩⟩
end
end SG
namespace SG
open PySem L2
theorem ok_law {P : Program} {w : World} {K : PySem.W.Frag} {mg : Str → Option Value} {base : Heap} {D : Defs} (O : Ok P K mg D) : FnOkz P w K mg base 46 D.flaw D.dlaw ["script"] (spLaw K) :=
  ok_lawG O (ok_distinct O (gn_leftovers O (gn_combN O 7 (by decide)) (ok_firsts O)))
end SG
namespace SG.Hd
open _root_.PySem _root_.PySem.W _root_.PySem.Calls PyProof.Rows SG
theorem PySem.W.holds_open {r : OpenRow} {q : Program} {loose : List Str} {Xt : Shared → Bool} {XP : (Str → Option Value) → Heap → Prop} {α : Type} {Yf : Shared → α} {Ya : World → α} {YP : World → Heap → Prop} {d : DefRec} {kwd : List (Str × Expr)} {N : Nat}
    (hl : LeftO r.prog q loose Xt Yf Ya N) (y1 : ∀ w s, Yf s = Ya w → YP w s.heap) (y2 : ∀ w a b, YP w a → (∀ i o, a.get? i = some o → b.get? i = some o) → YP w b) (x1 : ∀ s, Xt s = true → XP (s.heap.nsMap mainGlobals) s.heap)
    (x2 : ∀ mg a b, XP mg a → (∀ i o, a.get? i = some o → b.get? i = some o) → XP mg b) (d1 : defOf q r.name = some (d, kwd)) (d2 : r.prog.theDef r.name = some (d.params, d.body, d.scope)) (d3 : kwWritten? d.params.kwonlyargs d.params.kw_defaults = some kwd)
    (r1 : ∀ s, Xt s = true → RecFacts r.records s.heap) (r2 : (!r.writes || r.records.isEmpty) = true) (k1 : r.wellSaid = true) (k2 : (chainsOk q && opensWell r.prog && (frees r.toRowW && r.within.isEmpty)) = true) (k3 : r.prog.bare) (hw : r.toRowW.promised)
    (call : WalkZ q loose XP YP r.toRowW d kwd) : r.Holds := by
  obtain ⟨k2, k4⟩ := Bool.and_eq_true_iff.mp k2
  obtain ⟨ch, k5⟩ := Bool.and_eq_true_iff.mp k2
  obtain ⟨k4, k6⟩ := Bool.and_eq_true_iff.mp k4
  obtain ⟨same, fu, fa, fp, mk⟩ := frees_parts k4
  refine ⟨k1, hw, ⟨k3, k5, by show r.makers.map _ = []; rw [mk]; rfl⟩, hw.witness, fun w => ⟨(hl.behind x1 ch w).1, fun z hz => ?_⟩⟩
  obtain ⟨t0, f0, g0, t, T, zz, gz, ns, GG, yy⟩ := (hl.behind (XP := fun mg h => XP mg h ∧ RecFacts r.records h) (fun s e => ⟨x1 s e, r1 s e⟩) ch w).2 z hz
  have G0 : Ground q loose [] XP w t (t.heap.nsMap mainGlobals) (t.heap.nsMap builtinsNs) t.heap := ⟨GG.T, GG.B, GG.D, GG.TE, GG.TD, GG.W, GG.X.1, GG.cls, GG.has, GG.apart, GG.once, GG.K⟩
  have RF := GG.X.2
  have T2 := T
  have gz : t.gens = #[] := Array.eq_empty_of_size_eq_zero (beq_iff_eq.mp gz)
  have G1 : Ground q loose r.records XP w t _ _ t.heap := RF.ground G0
  refine ⟨t0, f0, g0, t, T, fun n hn => ?_, RF.1, RF.2.1, ?_⟩
  · obtain rfl : n = r.name := by split at hn <;> simp_all
    exact pinned_of_view ns G0 d1 d2 d3
  refine call_from_z (c := r.toRowW.claim) zz gz fun args pre lay ord ho => ?_
  obtain ⟨⟨vs, t1⟩, laid⟩ := Option.isSome_iff_exists.mp (layAllW_isSome (P := w.params) (ord := ord) G1.has args r.args t (pre_splitW pre).1)
  have ks := layAllW_keeps _ _ _ laid
  have rs := layAllW_rest _ _ _ laid
  obtain ⟨al, rd, inn, old⟩ := reads_layAllW ho _ _ _ laid lay t1.heap (fun _ _ e => e)
  have L : Laid r.records w t t1 args vs al := ⟨⟨ord, ho, laid⟩, rd, inn, old, ks, rs.1.trans gz, rs.2.2.1⟩
  have G2 := G1.keeps x2 ks
  obtain ⟨a, o, pm, cd, doc, dV, kV, h1, h2, h3, h4, h5⟩ := G2.fn d1
  have go := call w t t1 _ _ G2 (y2 _ _ _ (y1 w t yy) ks) a o pm cd doc dV kV h2 h3 h4 h5 (defOf_name d1 ▸ h1) L.gens args vs al pre lay L.reads L.well (L.low G1.low)
  have id := ident_freeW fu fa fp
  have wi : r.toRowW.claim.within = [] := List.isEmpty_iff.mp k6
  refine ⟨vs, t1, laid, ?_⟩
  refine wpAny_bind (wpAny_nsGet G2.T.g ?_)
  rw [h1]
  refine wpAny_bind (wpAny_mono go (fun v u g => wpAny_pure ⟨_, rfl, ?_⟩) fun x u g => ?_)
  · have z := g.1.laid (c := r.toRowW.claim) same wi id L
    exact ⟨⟨z.1, z.2.1, fun e => ⟨namesKept_of T2 ns _ ks g.1.2.1.old, noTable r2 e⟩⟩, z.2.2, g.2⟩
  · have z := g.1.laid (c := r.toRowW.claim) same wi id L
    exact ⟨⟨z.1, z.2.1, fun e => ⟨namesKept_of T2 ns _ ks g.1.2.1.old, noTable r2 e⟩⟩, z.2.2, g.2⟩
end SG.Hd
namespace SG
open PySem L2
theorem all_mk {P : Program} {w : World} {K : PySem.W.Frag} {h : Heap} {mg : Str → Option Value} {f1 f2 f3 f4 f5 f6 f7 f8 f9 f10 f11 f12 f13  fa : Addr} {od1 an1 od2 an2 od3 an3 od4 an4 od5 an5 od6 an6 od7 an7 od8 an8 od9 an9 od10 an10 od11 an11 od12 an12 od13 an13 : Option Addr} {sl1 sl2 sl3 sl4 sl5 sl6 sl7 sl8 sl9 sl10 sl11 sl12 sl13 : Array (Option Value)} {oc1 kV1 dc1 pm1 cd1 ct1 oc2 kV2 dc2 pm2 cd2 ct2 oc3 kV3 dc3 pm3 cd3 ct3 oc4 kV4 dc4 pm4 cd4 ct4 oc5 kV5 dc5 pm5 cd5 ct5 oc6 kV6 dc6 pm6 cd6 ct6 oc7 kV7 dc7 pm7 cd7 ct7 oc8 kV8 dc8 pm8 cd8 ct8 oc9 kV9 dc9 pm9 cd9 ct9 oc10 kV10 dc10 pm10 cd10 ct10 oc11 kV11 dc11 pm11 cd11 ct11 oc12 kV12 dc12 pm12 cd12 ct12 oc13 kV13 dc13 pm13 cd13 ct13 : Value}  (X : K.In h) (G : h.Ns mainGlobals mg) (hfa : mg "law" = some (.ref fa))
    (a1 : PySem.W.nsIn K mainGlobals "choices" = some (some (.ref f1)))
    (l1 : K.lookup f1 = some ⟨oc1, od1, .func (PySem.W.fnOf "choices" "choices" (defArgs s_choices) (defBody s_choices) (defScope s_choices) .none kV1 dc1 pm1 an1 cd1 ct1), sl1⟩)
    (c1 : PySem.W.codeIn K cd1 "choices" = true)
    (k1 : PySem.W.keepIn K (.ref f1) = true)
    (a2 : PySem.W.nsIn K mainGlobals "image" = some (some (.ref f2)))
    (l2 : K.lookup f2 = some ⟨oc2, od2, .func (PySem.W.fnOf "image" "image" (defArgs s_image) (defBody s_image) (defScope s_image) .none kV2 dc2 pm2 an2 cd2 ct2), sl2⟩)
    (c2 : PySem.W.codeIn K cd2 "image" = true)
    (k2 : PySem.W.keepIn K (.ref f2) = true)
    (a3 : PySem.W.nsIn K mainGlobals "rows" = some (some (.ref f3)))
    (l3 : K.lookup f3 = some ⟨oc3, od3, .func (PySem.W.fnOf "rows" "rows" (defArgs s_rows) (defBody s_rows) (defScope s_rows) .none kV3 dc3 pm3 an3 cd3 ct3), sl3⟩)
    (c3 : PySem.W.codeIn K cd3 "rows" = true)
    (k3 : PySem.W.keepIn K (.ref f3) = true)
    (a4 : PySem.W.nsIn K mainGlobals "distinct" = some (some (.ref f4)))
    (l4 : K.lookup f4 = some ⟨oc4, od4, .func (PySem.W.fnOf "distinct" "distinct" (defArgs s_distinct) (defBody s_distinct) (defScope s_distinct) .none kV4 dc4 pm4 an4 cd4 ct4), sl4⟩)
    (c4 : PySem.W.codeIn K cd4 "distinct" = true)
    (k4 : PySem.W.keepIn K (.ref f4) = true)
    (a5 : PySem.W.nsIn K mainGlobals "leftovers" = some (some (.ref f5)))
    (l5 : K.lookup f5 = some ⟨oc5, od5, .func (PySem.W.fnOf "leftovers" "leftovers" (defArgs s_leftovers) (defBody s_leftovers) (defScope s_leftovers) .none kV5 dc5 pm5 an5 cd5 ct5), sl5⟩)
    (c5 : PySem.W.codeIn K cd5 "leftovers" = true)
    (k5 : PySem.W.keepIn K (.ref f5) = true)
    (a6 : PySem.W.nsIn K mainGlobals "combined" = some (some (.ref f6)))
    (l6 : K.lookup f6 = some ⟨oc6, od6, .func (PySem.W.fnOf "combined" "combined" (defArgs s_combined) (defBody s_combined) (defScope s_combined) .none kV6 dc6 pm6 an6 cd6 ct6), sl6⟩)
    (c6 : PySem.W.codeIn K cd6 "combined" = true)
    (k6 : PySem.W.keepIn K (.ref f6) = true)
    (a7 : PySem.W.nsIn K mainGlobals "first_choices" = some (some (.ref f7)))
    (l7 : K.lookup f7 = some ⟨oc7, od7, .func (PySem.W.fnOf "first_choices" "first_choices" (defArgs s_first_choices) (defBody s_first_choices) (defScope s_first_choices) .none kV7 dc7 pm7 an7 cd7 ct7), sl7⟩)
    (c7 : PySem.W.codeIn K cd7 "first_choices" = true)
    (k7 : PySem.W.keepIn K (.ref f7) = true)
    (a8 : PySem.W.nsIn K mainGlobals "outcomes" = some (some (.ref f8)))
    (l8 : K.lookup f8 = some ⟨oc8, od8, .func (PySem.W.fnOf "outcomes" "outcomes" (defArgs s_outcomes) (defBody s_outcomes) (defScope s_outcomes) .none kV8 dc8 pm8 an8 cd8 ct8), sl8⟩)
    (c8 : PySem.W.codeIn K cd8 "outcomes" = true)
    (k8 : PySem.W.keepIn K (.ref f8) = true)
    (a9 : PySem.W.nsIn K mainGlobals "_law_state" = some (some (.ref f9)))
    (l9 : K.lookup f9 = some ⟨oc9, od9, .func (PySem.W.fnOf "_law_state" "_law_state" (defArgs s__law_state) (defBody s__law_state) (defScope s__law_state) .none kV9 dc9 pm9 an9 cd9 ct9), sl9⟩)
    (c9 : PySem.W.codeIn K cd9 "_law_state" = true)
    (k9 : PySem.W.keepIn K (.ref f9) = true)
    (a10 : PySem.W.nsIn K mainGlobals "_law_draw" = some (some (.ref f10)))
    (l10 : K.lookup f10 = some ⟨oc10, od10, .func (PySem.W.fnOf "_law_draw" "_law_draw" (defArgs s__law_draw) (defBody s__law_draw) (defScope s__law_draw) .none kV10 dc10 pm10 an10 cd10 ct10), sl10⟩)
    (c10 : PySem.W.codeIn K cd10 "_law_draw" = true)
    (k10 : PySem.W.keepIn K (.ref f10) = true)
    (a11 : PySem.W.nsIn K mainGlobals "_law_left" = some (some (.ref f11)))
    (l11 : K.lookup f11 = some ⟨oc11, od11, .func (PySem.W.fnOf "_law_left" "_law_left" (defArgs s__law_left) (defBody s__law_left) (defScope s__law_left) .none kV11 dc11 pm11 an11 cd11 ct11), sl11⟩)
    (c11 : PySem.W.codeIn K cd11 "_law_left" = true)
    (k11 : PySem.W.keepIn K (.ref f11) = true)
    (a12 : PySem.W.nsIn K mainGlobals "_law_all" = some (some (.ref f12)))
    (l12 : K.lookup f12 = some ⟨oc12, od12, .func (PySem.W.fnOf "_law_all" "_law_all" (defArgs s__law_all) (defBody s__law_all) (defScope s__law_all) .none kV12 dc12 pm12 an12 cd12 ct12), sl12⟩)
    (c12 : PySem.W.codeIn K cd12 "_law_all" = true)
    (k12 : PySem.W.keepIn K (.ref f12) = true)
    (a13 : PySem.W.nsIn K mainGlobals "law" = some (some (.ref f13)))
    (l13 : K.lookup f13 = some ⟨oc13, od13, .func (PySem.W.fnOf "law" "law" (defArgs s_law) (defBody s_law) (defScope s_law) .none kV13 dc13 pm13 an13 cd13 ct13), sl13⟩)
    (c13 : PySem.W.codeIn K cd13 "law" = true)
    (k13 : PySem.W.keepIn K (.ref f13) = true)
    (zlen : PySem.W.nsIn K mainGlobals "len" = some none)
    (zint : PySem.W.nsIn K mainGlobals "int" = some none)
    (zabs : PySem.W.nsIn K mainGlobals "abs" = some none)
    (zrange : PySem.W.nsIn K mainGlobals "range" = some none)
    (zlist : PySem.W.nsIn K mainGlobals "list" = some none)
    (ztuple : PySem.W.nsIn K mainGlobals "tuple" = some none)
    (zenumerate : PySem.W.nsIn K mainGlobals "enumerate" = some none)
    (zzip : PySem.W.nsIn K mainGlobals "zip" = some none) :
    ∃ fd : FuncData, (∀ (s : Shared) (v : Value), BindsTo s fd ⟨[v], []⟩ [("script", v)]) ∧ ∀ base : Heap, K.In base → base.Ns mainGlobals mg → FnOkz P w K mg base 46 fa fd ["script"] (spLaw K) := by
  have e := hfa.symm.trans (PySem.W.mg_of X G a13)
  cases e
  have F1 := fun_mk (st := s_choices) l1 c1 k1
  have b1 := F1.binds (ps := ["snapshot", "sector", "tears"]) fun _ _ _ _ _ _ us hl => match us, hl with | [_, _, _], _ => rfl
  have F2 := fun_mk (st := s_image) l2 c2 k2
  have b2 := F2.binds (ps := ["snapshot", "tears", "row"]) fun _ _ _ _ _ _ us hl => match us, hl with | [_, _, _], _ => rfl
  have F3 := fun_mk (st := s_rows) l3 c3 k3
  have b3 := F3.binds (ps := ["snapshot", "tears"]) fun _ _ _ _ _ _ us hl => match us, hl with | [_, _], _ => rfl
  have F4 := fun_mk (st := s_distinct) l4 c4 k4
  have b4 := F4.binds (ps := ["snapshot", "tears"]) fun _ _ _ _ _ _ us hl => match us, hl with | [_, _], _ => rfl
  have F5 := fun_mk (st := s_leftovers) l5 c5 k5
  have b5 := F5.binds (ps := ["snapshot", "tears"]) fun _ _ _ _ _ _ us hl => match us, hl with | [_, _], _ => rfl
  have F6 := fun_mk (st := s_combined) l6 c6 k6
  have b6 := F6.binds (ps := ["firsts"]) fun _ _ _ _ _ _ us hl => match us, hl with | [_], _ => rfl
  have F7 := fun_mk (st := s_first_choices) l7 c7 k7
  have b7 := F7.binds (ps := ["snapshot", "sector", "tears"]) fun _ _ _ _ _ _ us hl => match us, hl with | [_, _, _], _ => rfl
  have F8 := fun_mk (st := s_outcomes) l8 c8 k8
  have b8 := F8.binds (ps := ["snapshot", "sector", "tears"]) fun _ _ _ _ _ _ us hl => match us, hl with | [_, _, _], _ => rfl
  have F9 := fun_mk (st := s__law_state) l9 c9 k9
  have b9 := F9.binds (ps := ["script"]) fun _ _ _ _ _ _ us hl => match us, hl with | [_], _ => rfl
  have F10 := fun_mk (st := s__law_draw) l10 c10 k10
  have b10 := F10.binds (ps := ["state", "many"]) fun _ _ _ _ _ _ us hl => match us, hl with | [_, _], _ => rfl
  have F11 := fun_mk (st := s__law_left) l11 c11 k11
  have b11 := F11.binds (ps := ["snapshot", "sector", "tears"]) fun _ _ _ _ _ _ us hl => match us, hl with | [_, _, _], _ => rfl
  have F12 := fun_mk (st := s__law_all) l12 c12 k12
  have b12 := F12.binds (ps := ["snapshot", "tears"]) fun _ _ _ _ _ _ us hl => match us, hl with | [_, _], _ => rfl
  have F13 := fun_mk (st := s_law) l13 c13 k13
  have b13 := F13.binds (ps := ["script"]) fun _ _ _ _ _ _ us hl => match us, hl with | [_], _ => rfl
  have O : Ok P K mg { fchoices := f1, dchoices := PySem.W.fnOf "choices" "choices" (defArgs s_choices) (defBody s_choices) (defScope s_choices) .none kV1 dc1 pm1 an1 cd1 ct1, fimage := f2, dimage := PySem.W.fnOf "image" "image" (defArgs s_image) (defBody s_image) (defScope s_image) .none kV2 dc2 pm2 an2 cd2 ct2, frows := f3, drows := PySem.W.fnOf "rows" "rows" (defArgs s_rows) (defBody s_rows) (defScope s_rows) .none kV3 dc3 pm3 an3 cd3 ct3, fdistinct := f4, ddistinct := PySem.W.fnOf "distinct" "distinct" (defArgs s_distinct) (defBody s_distinct) (defScope s_distinct) .none kV4 dc4 pm4 an4 cd4 ct4, fleftovers := f5, dleftovers := PySem.W.fnOf "leftovers" "leftovers" (defArgs s_leftovers) (defBody s_leftovers) (defScope s_leftovers) .none kV5 dc5 pm5 an5 cd5 ct5, fcombined := f6, dcombined := PySem.W.fnOf "combined" "combined" (defArgs s_combined) (defBody s_combined) (defScope s_combined) .none kV6 dc6 pm6 an6 cd6 ct6, ffirst_choices := f7, dfirst_choices := PySem.W.fnOf "first_choices" "first_choices" (defArgs s_first_choices) (defBody s_first_choices) (defScope s_first_choices) .none kV7 dc7 pm7 an7 cd7 ct7, foutcomes := f8, doutcomes := PySem.W.fnOf "outcomes" "outcomes" (defArgs s_outcomes) (defBody s_outcomes) (defScope s_outcomes) .none kV8 dc8 pm8 an8 cd8 ct8, f_law_state := f9, d_law_state := PySem.W.fnOf "_law_state" "_law_state" (defArgs s__law_state) (defBody s__law_state) (defScope s__law_state) .none kV9 dc9 pm9 an9 cd9 ct9, f_law_draw := f10, d_law_draw := PySem.W.fnOf "_law_draw" "_law_draw" (defArgs s__law_draw) (defBody s__law_draw) (defScope s__law_draw) .none kV10 dc10 pm10 an10 cd10 ct10, f_law_left := f11, d_law_left := PySem.W.fnOf "_law_left" "_law_left" (defArgs s__law_left) (defBody s__law_left) (defScope s__law_left) .none kV11 dc11 pm11 an11 cd11 ct11, f_law_all := f12, d_law_all := PySem.W.fnOf "_law_all" "_law_all" (defArgs s__law_all) (defBody s__law_all) (defScope s__law_all) .none kV12 dc12 pm12 an12 cd12 ct12, flaw := f13, dlaw := PySem.W.fnOf "law" "law" (defArgs s_law) (defBody s_law) (defScope s_law) .none kV13 dc13 pm13 an13 cd13 ct13 } :=
    { Fchoices := F1,
      bchoices := b1,
      mchoices := PySem.W.mg_of X G a1,
      Fimage := F2,
      bimage := b2,
      mimage := PySem.W.mg_of X G a2,
      Frows := F3,
      brows := b3,
      mrows := PySem.W.mg_of X G a3,
      Fdistinct := F4,
      bdistinct := b4,
      mdistinct := PySem.W.mg_of X G a4,
      Fleftovers := F5,
      bleftovers := b5,
      mleftovers := PySem.W.mg_of X G a5,
      Fcombined := F6,
      bcombined := b6,
      mcombined := PySem.W.mg_of X G a6,
      Ffirst_choices := F7,
      bfirst_choices := b7,
      mfirst_choices := PySem.W.mg_of X G a7,
      Foutcomes := F8,
      boutcomes := b8,
      moutcomes := PySem.W.mg_of X G a8,
      F_law_state := F9,
      b_law_state := b9,
      m_law_state := PySem.W.mg_of X G a9,
      F_law_draw := F10,
      b_law_draw := b10,
      m_law_draw := PySem.W.mg_of X G a10,
      F_law_left := F11,
      b_law_left := b11,
      m_law_left := PySem.W.mg_of X G a11,
      F_law_all := F12,
      b_law_all := b12,
      m_law_all := PySem.W.mg_of X G a12,
      Flaw := F13,
      blaw := b13,
      mlaw := PySem.W.mg_of X G a13,
      zlen := PySem.W.mg_none_of X G zlen,
      zint := PySem.W.mg_none_of X G zint,
      zabs := PySem.W.mg_none_of X G zabs,
      zrange := PySem.W.mg_none_of X G zrange,
      zlist := PySem.W.mg_none_of X G zlist,
      ztuple := PySem.W.mg_none_of X G ztuple,
      zenumerate := PySem.W.mg_none_of X G zenumerate,
      zzip := PySem.W.mg_none_of X G zzip }
  exact ⟨PySem.W.fnOf "law" "law" (defArgs s_law) (defBody s_law) (defScope s_law) .none kV13 dc13 pm13 an13 cd13 ct13, fun s v => .of_eq rfl, fun base _ _ => ok_law O⟩
theorem walk {l : PySem.W.OpenLaw} {q : Program} {loose : List Str} {XP : (Str → Option Value) → Heap → Prop} {YP : World → Heap → Prop} {d : DefRec} {K : Params → PySem.W.Frag} (hn : l.most = some 63) (hdf : d.params.defaults = [])
    (hY : ∀ (w : World) (h : Heap), YP w h → (K w.params).In h)
    (F : ∀ (w : World) (mg : Str → Option Value) (fa : Addr) (h : Heap), (K w.params).In h → h.Ns mainGlobals mg → mg d.name = some (.ref fa) →
      ∃ fd : FuncData, (∀ (s : Shared) (u : Value), BindsTo s fd ⟨[u], []⟩ [("script", u)]) ∧ ∀ base : Heap, (K w.params).In base → base.Ns mainGlobals mg → FnOkz l.prog w (K w.params) mg base 46 fa fd ["script"] (spLaw (K w.params))) :
    WalkZ q loose XP YP l.row.toRowW d [] :=
  walk_z (n := 63) (k := 46) (x := "script") (sp := fun w => spLaw (K w.params)) hn (by decide) hdf ⟨rfl, by decide, by decide⟩ hY F fun _ _ a ns hl _ hS => ⟨a, ns, rfl, hS, hl, fun _ => rfl⟩
end SG
namespace SG.Hd
set_option maxRecDepth 100000 in
set_option maxHeartbeats 0 in
theorem main : PySem.Challenge.rw_salvor_k05_images.Holds := by
  w_on; o_law; k_head; (case hw => w_witness2)
  k_fill
  refine SG.walk (l := PySem.Challenge.rw_salvor_k05_images) rfl rfl (fun w h Y => PySem.W.kIn_of Y) ?F
  case F =>
    intro w mg fa h KX G hmg
    refine' SG.all_mk KX G hmg ?a1 ?l1 ?c1 ?k1 ?a2 ?l2 ?c2 ?k2 ?a3 ?l3 ?c3 ?k3 ?a4 ?l4 ?c4 ?k4 ?a5 ?l5 ?c5 ?k5 ?a6 ?l6 ?c6 ?k6 ?a7 ?l7 ?c7 ?k7 ?a8 ?l8 ?c8 ?k8 ?a9 ?l9 ?c9 ?k9 ?a10 ?l10 ?c10 ?k10 ?a11 ?l11 ?c11 ?k11 ?a12 ?l12 ?c12 ?k12 ?a13 ?l13 ?c13 ?k13 ?zlen ?zint ?zabs ?zrange ?zlist ?ztuple ?zenumerate ?zzip
    (case a1 => k_is)
    (case l1 => k_is)
    (case c1 => k_is)
    (case k1 => k_is)
    (case a2 => k_is)
    (case l2 => k_is)
    (case c2 => k_is)
    (case k2 => k_is)
    (case a3 => k_is)
    (case l3 => k_is)
    (case c3 => k_is)
    (case k3 => k_is)
    (case a4 => k_is)
    (case l4 => k_is)
    (case c4 => k_is)
    (case k4 => k_is)
    (case a5 => k_is)
    (case l5 => k_is)
    (case c5 => k_is)
    (case k5 => k_is)
    (case a6 => k_is)
    (case l6 => k_is)
    (case c6 => k_is)
    (case k6 => k_is)
    (case a7 => k_is)
    (case l7 => k_is)
    (case c7 => k_is)
    (case k7 => k_is)
    (case a8 => k_is)
    (case l8 => k_is)
    (case c8 => k_is)
    (case k8 => k_is)
    (case a9 => k_is)
    (case l9 => k_is)
    (case c9 => k_is)
    (case k9 => k_is)
    (case a10 => k_is)
    (case l10 => k_is)
    (case c10 => k_is)
    (case k10 => k_is)
    (case a11 => k_is)
    (case l11 => k_is)
    (case c11 => k_is)
    (case k11 => k_is)
    (case a12 => k_is)
    (case l12 => k_is)
    (case c12 => k_is)
    (case k12 => k_is)
    (case a13 => k_is)
    (case l13 => k_is)
    (case c13 => k_is)
    (case k13 => k_is)
    (case zlen => k_is)
    (case zint => k_is)
    (case zabs => k_is)
    (case zrange => k_is)
    (case zlist => k_is)
    (case ztuple => k_is)
    (case zenumerate => k_is)
    (case zzip => k_is)
end SG.Hd
open PySem PySem.W PyProof.Rows
theorem PySem.Challenge.cw_salvor_k05_images_holds : PySem.Challenge.rw_salvor_k05_images.Holds :=
  SG.Hd.main
